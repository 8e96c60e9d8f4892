/- VpMem, VpA, VpB, VpF, VpG, VpH, VpR. -/
import Derived.Test.YtbfllifgmlkndaaGreatDoorM14
import Derived.Test.YtbfllifgmlkndaaGreatDoorM09
import Derived.Deep.DeepCutAuto
import Derived.Test.YtbfllifgmlkndaaGreatDoorM15
import Derived.Test.YtbfllifgmlkndaaGreatDoorM07
import Derived.RangeFuncNested
import Derived.RangeFuncBound
import Derived.RangeFuncCalls
import Derived.RangeFuncLeaves
import Derived.Shelf.Abstract
import Derived.Shelf.RegionOpen
import Derived.OwnWalkIn
import Derived.TacticsInMore
import Derived.LoopNIn
import Derived.LoopIn
import Derived.OrdersIn
import Derived.RegionIn
namespace Go.Proofs.YtbfllifgmlkndaaGreatDoor
open Go.RowKit
open Slot

/-- an owner as it is kept -/
def ownZ (o : Nat) : Int := if o < 64 then (o : Int) else -1
/-- a view in block b -/
def VB (w : World) (b : Nat) (v : Vw) : Prop := ∃ C : Array Value, w.heap[b]? = some (.cells C 109 (0, 0)) ∧ C.size = 16450 ∧ C[0]? = some (.int .i64 (v.self : Int)) ∧ (∀ s, s < 16384 → C[1 + s]? = some (.int .i8 (ownZ (v.own s)))) ∧ (∀ n, n < 64 → C[16385 + n]? = some (.int .u64 (v.ep n : Int))) ∧ C[16449]? = some (.int .u64 (v.cur : Int))
theorem VB.lt {w : World} {b : Nat} {v : Vw} (h : VB w b v) : b < w.heap.size := by
  obtain ⟨C, h1, _⟩ := h
  exact (Array.getElem?_eq_some_iff.1 h1).1
theorem VB.turn {w w' : World} {b : Nat} {v : Vw} (h : VB w b v) (hb : w'.heap[b]? = w.heap[b]?) : VB w' b v := by
  obtain ⟨C, h1, h2⟩ := h
  exact ⟨C, hb.trans h1, h2⟩
theorem VB.below {w w' : World} {n b : Nat} {v : Vw} (h : VB w b v) (hb : Below n w w') (hn : b < n) : VB w' b v := h.turn (hb.block b hn)
theorem VB.self_ {w : World} {b : Nat} {v : Vw} (h : VB w b v) : w.cell? ⟨b, 0, none⟩ = some (.int .i64 (v.self : Int)) := by
  obtain ⟨C, h1, _, h2, _⟩ := h
  rw [cell_of_row w b _ _ _ _ h1]; exact h2
theorem VB.own_ {w : World} {b : Nat} {v : Vw} (h : VB w b v) {s : Nat} (hs : s < 16384) : w.cell? ⟨b, 1 + s, none⟩ = some (.int .i8 (ownZ (v.own s))) := by
  obtain ⟨C, h1, _, _, h2, _⟩ := h
  rw [cell_of_row w b _ _ _ _ h1]; exact h2 s hs
theorem VB.ep_ {w : World} {b : Nat} {v : Vw} (h : VB w b v) {n : Nat} (hn : n < 64) : w.cell? ⟨b, 16385 + n, none⟩ = some (.int .u64 (v.ep n : Int)) := by
  obtain ⟨C, h1, _, _, _, h2, _⟩ := h
  rw [cell_of_row w b _ _ _ _ h1]; exact h2 n hn
theorem VB.cur_ {w : World} {b : Nat} {v : Vw} (h : VB w b v) : w.cell? ⟨b, 16449, none⟩ = some (.int .u64 (v.cur : Int)) := by
  obtain ⟨C, h1, _, _, _, _, h2⟩ := h
  rw [cell_of_row w b _ _ _ _ h1]; exact h2
theorem VB.frozen {w : World} {b : Nat} {v : Vw} (h : VB w b v) (j : Nat) : w.frozen? ⟨b, j, none⟩ = false := by
  obtain ⟨C, h1, _⟩ := h
  simp [World.frozen?, h1]
theorem set_ne {C : Array Value} {i j : Nat} {x v : Value} (h : i ≠ j) (hv : C[j]? = some v) : (C.setIfInBounds i x)[j]? = some v := by
  rw [Array.getElem?_setIfInBounds_ne h]; exact hv
theorem set_eq {C : Array Value} {i : Nat} {x : Value} (h : i < C.size) : (C.setIfInBounds i x)[i]? = some x := Array.getElem?_setIfInBounds_self_of_lt h
theorem VB.setOwn {w : World} {b : Nat} {v : Vw} (h : VB w b v) {s n : Nat} (hs : s < 16384) : VB (w.setCell ⟨b, 1 + s, none⟩ (.int .i8 (ownZ n))) b (ownV v s n) := by
  obtain ⟨C, h1, h2, h3, h4, h5, h6⟩ := h
  refine ⟨_, heap_setCell_same w b (1 + s) C _ _ h1, by rw [Array.size_setIfInBounds]; exact h2, set_ne (by omega) h3, fun t ht => ?_, fun m hm => set_ne (by omega) (h5 m hm), set_ne (by omega) h6⟩
  show _ = some (Value.int .i8 (ownZ (if t = s then n else v.own t)))
  by_cases e : t = s
  · rw [if_pos e, e]; exact set_eq (by omega)
  · rw [if_neg e]; exact set_ne (by omega) (h4 t ht)
theorem VB.setEp {w : World} {b : Nat} {v : Vw} (h : VB w b v) {n : Nat} (hn : n < 64) (x : Nat) : VB (w.setCell ⟨b, 16385 + n, none⟩ (.int .u64 (x : Int))) b { v with ep := fun m => if m = n then x else v.ep m } := by
  obtain ⟨C, h1, h2, h3, h4, h5, h6⟩ := h
  refine ⟨_, heap_setCell_same w b (16385 + n) C _ _ h1, by rw [Array.size_setIfInBounds]; exact h2, set_ne (by omega) h3, fun t ht => set_ne (by omega) (h4 t ht), fun m hm => ?_, set_ne (by omega) h6⟩
  show _ = some (Value.int .u64 (((if m = n then x else v.ep m) : Nat) : Int))
  by_cases e : m = n
  · rw [if_pos e, e]; exact set_eq (by omega)
  · rw [if_neg e]; exact set_ne (by omega) (h5 m hm)
theorem VB.setCur {w : World} {b : Nat} {v : Vw} (h : VB w b v) (x : Nat) : VB (w.setCell ⟨b, 16449, none⟩ (.int .u64 (x : Int))) b { v with cur := x } := by
  obtain ⟨C, h1, h2, h3, h4, h5, h6⟩ := h
  exact ⟨_, heap_setCell_same w b 16449 C _ _ h1, by rw [Array.size_setIfInBounds]; exact h2, set_ne (by omega) h3, fun t ht => set_ne (by omega) (h4 t ht), fun m hm => set_ne (by omega) (h5 m hm), set_eq (by omega)⟩
theorem ownZ_lt (o : Nat) : -1 ≤ ownZ o ∧ ownZ o < 64 := by unfold ownZ; split <;> omega
theorem ownI_in (v : Vw) {s : Nat} (h : s < 16384) : ownI v s = ownZ (v.own s) := by
  unfold ownI slotB ownZ
  rw [decide_eq_true (show (0 : Int) ≤ (s : Int) ∧ (s : Int) < 16384 by omega), Int.toNat_natCast]
  simp
theorem ownI_out (v : Vw) {s : Int} (h : slotB s = false) : ownI v s = -1 := by unfold ownI; rw [h]; simp

set_option maxHeartbeats 1000000 in
theorem isslot_any (n : Int) (w : World) : Calls Tryz.prog 52 #[.int .i64 n] w fun e w' => e = .returned (.bool (slotB n)) ∧ w' = w := by
  have HB : Hid (∀ c, slotB n = c → slotB n = c) := fun _ h => h
  by_cases h0 : 0 ≤ n
  · by_cases h1 : n < 16384
    · have HR : Hid (slotB n = true) := decide_eq_true ⟨h0, h1⟩
      go_enter Tryz.func52, Tryz.ntmps52
      go_wp2
      go_ret
      exact ⟨by rw [HR.out]; rfl, rfl⟩
    · have HR : Hid (slotB n = false) := decide_eq_false (fun c => h1 c.2)
      go_enter Tryz.func52, Tryz.ntmps52
      go_wp2
      go_ret
      exact ⟨by rw [HR.out]; rfl, rfl⟩
  · have HR : Hid (slotB n = false) := decide_eq_false (fun c => h0 c.1)
    go_enter Tryz.func52, Tryz.ntmps52
    go_wp2
    go_ret
    exact ⟨by rw [HR.out]; rfl, rfl⟩
set_option maxHeartbeats 1000000 in
theorem isnode_any (n : Int) (w : World) : Calls Tryz.prog 45 #[.int .i64 n] w fun e w' => e = .returned (.bool (nodeB n)) ∧ w' = w := by
  by_cases h0 : 0 ≤ n
  · by_cases h1 : n < 64
    · have HR : Hid (nodeB n = true) := decide_eq_true ⟨h0, h1⟩
      go_enter Tryz.func45, Tryz.ntmps45
      go_wp2
      go_ret
      exact ⟨by rw [HR.out]; rfl, rfl⟩
    · have HR : Hid (nodeB n = false) := decide_eq_false (fun c => h1 c.2)
      go_enter Tryz.func45, Tryz.ntmps45
      go_wp2
      go_ret
      exact ⟨by rw [HR.out]; rfl, rfl⟩
  · have HR : Hid (nodeB n = false) := decide_eq_false (fun c => h0 c.1)
    go_enter Tryz.func45, Tryz.ntmps45
    go_wp2
    go_ret
    exact ⟨by rw [HR.out]; rfl, rfl⟩
set_option maxHeartbeats 1000000 in
/-- Owner -/
theorem owner_any (b : Nat) (v : Vw) (s : Int) (w : World) (hV : VB w b v) : Calls Tryz.prog 27 #[.pointer (some ⟨b, 0, none⟩), .int .i64 s] w fun e w' => e = .returned (.int .i64 (ownI v s)) ∧ w' = w := by
  have HS := hid (isslot_any s w)
  cases hs : slotB s with
  | false =>
    have HR := hid (ownI_out v hs)
    go_enter Tryz.func27, Tryz.ntmps27
    go_wp2_with fail
    refine HS.out.mono ?_; rintro e w' ⟨rfl, rfl⟩
    rw [hs]
    go_wp2
    go_ret
    exact ⟨by rw [HR.out]; rfl, rfl⟩
  | true =>
    have h := of_decide_eq_true hs
    obtain ⟨k, rfl⟩ := Int.eq_ofNat_of_zero_le h.1
    have hk : k < 16384 := by omega
    have HR : Hid (ownI v (k : Int) = ownZ (v.own k)) := ownI_in v hk
    have hc := hV.own_ hk
    obtain ⟨z0, z1⟩ := ownZ_lt (v.own k)
    have hkz : (k : Int) < 16384 := by omega
    have hw : IntKind.i64.wrap (ownZ (v.own k)) = ownZ (v.own k) := by rw [IntKind.wrap_i64]; omega
    generalize ownZ (v.own k) = z at *
    clear h
    go_enter Tryz.func27, Tryz.ntmps27
    go_wp2_with fail
    refine HS.out.mono ?_; rintro e w' ⟨rfl, rfl⟩
    rw [hs]
    go_wp2
    go_ret
    exact ⟨by rw [HR.out]; rfl, rfl⟩
/-- an epoch, as it is told -/
def epI (v : Vw) (n : Int) : Nat := if nodeB n = true then v.ep n.toNat else 0
theorem epI_in (v : Vw) {n : Nat} (h : n < 64) : epI v n = v.ep n := by
  unfold epI nodeB
  rw [if_pos (decide_eq_true (by omega)), Int.toNat_natCast]
theorem epI_out (v : Vw) {n : Int} (h : nodeB n = false) : epI v n = 0 := by unfold epI; rw [h]; simp
set_option maxHeartbeats 1000000 in
/-- Epoch -/
theorem epoch_any (b : Nat) (v : Vw) (n : Int) (w : World) (hV : VB w b v) : Calls Tryz.prog 19 #[.pointer (some ⟨b, 0, none⟩), .int .i64 n] w fun e w' => e = .returned (.int .u64 (epI v n : Int)) ∧ w' = w := by
  have HS := hid (isnode_any n w)
  cases hs : nodeB n with
  | false =>
    have HR := hid (epI_out v hs)
    go_enter Tryz.func19, Tryz.ntmps19
    go_wp2_with fail
    refine HS.out.mono ?_; rintro e w' ⟨rfl, rfl⟩
    rw [hs]
    go_wp2
    go_ret
    exact ⟨by rw [HR.out]; rfl, rfl⟩
  | true =>
    have h := of_decide_eq_true hs
    obtain ⟨k, rfl⟩ := Int.eq_ofNat_of_zero_le h.1
    have hk : k < 64 := by omega
    have HR : Hid (epI v (k : Int) = v.ep k) := epI_in v hk
    have hc := hV.ep_ hk
    have hkz : (k : Int) < 64 := by omega
    generalize v.ep k = z at *
    clear h
    go_enter Tryz.func19, Tryz.ntmps19
    go_wp2_with fail
    refine HS.out.mono ?_; rintro e w' ⟨rfl, rfl⟩
    rw [hs]
    go_wp2
    go_ret
    exact ⟨by rw [HR.out]; rfl, rfl⟩
set_option maxHeartbeats 1000000 in
theorem current_any (b : Nat) (v : Vw) (w : World) (hV : VB w b v) : Calls Tryz.prog 18 #[.pointer (some ⟨b, 0, none⟩)] w fun e w' => e = .returned (.int .u64 (v.cur : Int)) ∧ w' = w := by
  have hc := hV.cur_
  go_enter Tryz.func18, Tryz.ntmps18
  go_wp2
  go_ret
  exact ⟨rfl, rfl⟩
set_option maxHeartbeats 1000000 in
theorem self_any (b : Nat) (v : Vw) (w : World) (hV : VB w b v) : Calls Tryz.prog 35 #[.pointer (some ⟨b, 0, none⟩)] w fun e w' => e = .returned (.int .i64 (v.self : Int)) ∧ w' = w := by
  have hc := hV.self_
  go_enter Tryz.func35, Tryz.ntmps35
  go_wp2
  go_ret
  exact ⟨rfl, rfl⟩

end Go.Proofs.YtbfllifgmlkndaaGreatDoor

namespace Go.Proofs.YtbfllifgmlkndaaGreatDoor
open Go.RowKit
open Slot

theorem VB.only {w w' : World} {c b : Nat} {v : Vw} (h : VB w b v) (hb : Only c w w') (hn : b ≠ c) : VB w' b v := h.turn (hb.block b h.lt hn)
/-- of whom a packet tells -/
def clI (p : Pk) : Int := if p.kind = 3 then p.of_ else p.frm
set_option maxHeartbeats 1000000 in
theorem claimant_any (p : Pk) (w : World) : Calls Tryz.prog 69 #[.agg (pkCells p)] w fun e w' => e = .returned (.int .i64 (clI p)) ∧ Below w.heap.size w w' := by
  have HP := hid (pbox_new w p)
  have HW := hid (below_alloc w (.cells (pkCells p) 53))
  obtain ⟨p0, p1, p2, p3, p4⟩ := HP.out.cells
  have HC : Hid (clI p = if p.kind = 3 then p.of_ else p.frm) := rfl
  generalize clI p = R at *
  generalize p.kind = K at *
  generalize p.of_ = O at *
  generalize p.frm = F at *
  generalize pkCells p = PC at *
  by_cases hk : K = 3
  · subst hk
    have HR : Hid (R = O) := by show _ = _; rw [HC.out, if_pos rfl]
    go_enter Tryz.func69, Tryz.ntmps69
    go_wp2
    go_ret
    exact ⟨by rw [HR.out]; rfl, HW.out⟩
  · have hk2 : (K == 3) = false := beq_eq_false_iff_ne.2 hk
    have HR : Hid (R = F) := by show _ = _; rw [HC.out, if_neg hk]
    go_enter Tryz.func69, Tryz.ntmps69
    go_wp2
    go_ret
    exact ⟨by rw [HR.out]; rfl, HW.out⟩
set_option maxHeartbeats 2000000 in
/-- rise -/
theorem rise_any (b : Nat) (v : Vw) (w : World) (hV : VB w b v) (hs : v.self < 64) (hc : v.cur < 9223372036854775808) : Calls Tryz.prog 71 #[.pointer (some ⟨b, 0, none⟩)] w fun e w' => e = .returned (.tuple #[]) ∧ VB w' b (raiseV v) ∧ Only b w w' := by
  have c0 := hV.self_
  have c1 := hV.cur_
  have f1 := hV.frozen 16449
  obtain ⟨M, hM⟩ : ∃ M, M = v.cur + 1 := ⟨_, rfl⟩
  have hM1 : (v.cur : Int) + 1 = (M : Int) := by omega
  have hM2 : IntKind.u64.wrap (M : Int) = M := by rw [IntKind.wrap_u64]; omega
  have HV1 := hid (hV.setCur M)
  have HO1 := hid (Only.setCell (Only.refl b w) 16449 (.int .u64 (M : Int)))
  have HE : Hid (raiseV v = { { v with cur := M } with ep := fun m => if m = v.self then M else v.ep m }) := by show _ = _; rw [hM]; rfl
  have HS := hid hs
  have hsz : (v.self : Int) < 64 := by omega
  clear hM hs hc
  go_enter Tryz.func71, Tryz.ntmps71
  go_upto_region 1 with fail
  generalize w.setCell ⟨b, 16449, none⟩ (.int .u64 (M : Int)) = w1 at *
  clear c0 c1 f1
  have c0 := HV1.out.self_
  have c1 := HV1.out.cur_
  have c2 := HV1.out.ep_ HS.out
  have f2 := HV1.out.frozen (16385 + v.self)
  have HV2 := hid (HV1.out.setEp HS.out M)
  have HO2 := hid (Only.setCell HO1.out (16385 + v.self) (.int .u64 (M : Int)))
  dsimp only at c0 c1 c2
  go_region
  go_wp2
  go_end0
  exact ⟨rfl, by rw [HE.out]; exact HV2.out.turn rfl, HO2.out.drew⟩

end Go.Proofs.YtbfllifgmlkndaaGreatDoor

namespace Go.Proofs.YtbfllifgmlkndaaGreatDoor
open Go.RowKit
open Slot

theorem wrap_i8 (n : Int) : IntKind.i8.wrap n = (n + 128) % 256 - 128 := by
  simp only [IntKind.wrap, IntKind.bits, IntKind.signed]
  simp
  omega
theorem winE_out {s : Int} (l : Nat) (h : slotB s = false) : winE s l = 1 := by unfold winE; rw [h]; simp
theorem winE_great {s : Int} {l : Nat} (h : 4611686018427387904 < l) : winE s l = 1 := by
  unfold winE
  rw [if_neg (fun c => by have := c.2; unfold big at this; omega)]
theorem winE_in {s : Int} {l : Nat} (hs : slotB s = true) (h : l ≤ 4611686018427387904) : winE s l = 0 := by
  unfold winE
  rw [if_pos ⟨hs, h⟩]
def WinP (b : Nat) (v : Vw) (s : Int) (l : Nat) (w : World) (e : Ending) (w' : World) : Prop :=
  e = .returned (.int .i64 (winE s l)) ∧ VB w' b (if winE s l = 0 then winV v s.toNat l else v) ∧ Only b w w'
theorem vwin_no {b : Nat} {v : Vw} {s : Int} {l : Nat} {w : World} (h : winE s l = 1) (hV : VB w b v) : WinP b v s l w (.returned (.int .i64 1)) w := by
  refine ⟨by rw [h], ?_, Only.refl b w⟩
  rw [h, if_neg (by decide)]; exact hV
theorem vwin_yes {b : Nat} {v : Vw} {s l : Nat} {w w' : World} (h : winE (s : Int) l = 0) (hV : VB w' b (winV v s l)) (ho : Only b w w') : WinP b v (s : Int) l w (.returned (.int .i64 0)) w' := by
  refine ⟨by rw [h], ?_, ho⟩
  rw [h, if_pos rfl, Int.toNat_natCast]; exact hV
set_option maxHeartbeats 2000000 in
set_option maxRecDepth 100000 in
theorem win_any (b : Nat) (v : Vw) (s : Int) (l : Nat) (w : World) (hV : VB w b v) (hs : v.self < 64) (hc : v.cur < 9223372036854775807) : Calls Tryz.prog 59 #[.pointer (some ⟨b, 0, none⟩), .int .i64 s, .int .u64 (l : Int)] w (WinP b v s l w) := by
  have HS := hid (isslot_any s w)
  cases hsl : slotB s with
  | false =>
    have HR := hid (vwin_no (winE_out l hsl) hV)
    go_enter Tryz.func59, Tryz.ntmps59
    go_wp2_with fail
    refine HS.out.mono ?_; rintro e w' ⟨rfl, rfl⟩
    rw [hsl]
    go_wp2
    go_ret
    exact HR.out
  | true =>
    by_cases hl : 4611686018427387904 < l
    · have HR := hid (vwin_no (s := s) (winE_great hl) hV)
      have hlz : (4611686018427387904 : Int) < (l : Int) := by omega
      go_enter Tryz.func59, Tryz.ntmps59
      go_wp2_with fail
      refine HS.out.mono ?_; rintro e w' ⟨rfl, rfl⟩
      rw [hsl]
      go_wp2
      go_ret
      exact HR.out
    · have h := of_decide_eq_true hsl
      obtain ⟨k, rfl⟩ := Int.eq_ofNat_of_zero_le h.1
      have hk : k < 16384 := by omega
      have hkz : (k : Int) < 16384 := by omega
      have hlz : ¬ (4611686018427387904 : Int) < (l : Int) := by omega
      have HE := hid (winE_in (l := l) hsl (by omega))
      obtain ⟨m, hm⟩ : ∃ m, m = v.self := ⟨_, rfl⟩
      have hw8 : IntKind.i8.wrap (m : Int) = m := by rw [wrap_i8]; omega
      have c0 := hV.self_
      have c1 := hV.cur_
      have c2 := hV.own_ hk
      have f2 := hV.frozen (1 + k)
      have hz : (m : Int) = ownZ v.self := by unfold ownZ; rw [if_pos hs, hm]
      have HV1 : Hid (VB (w.setCell ⟨b, 1 + k, none⟩ (.int .i8 (m : Int))) b (ownV v k v.self)) := by
        rw [hz]; exact hV.setOwn hk
      have HO1 := hid (Only.setCell (Only.refl b w) (1 + k) (.int .i8 (m : Int)))
      rw [← hm] at c0
      have HM := hid hm
      have HSl := hid hs
      have HCu := hid hc
      clear h hz hm hs hc hl
      go_enter Tryz.func59, Tryz.ntmps59
      go_wp2_with fail
      refine HS.out.mono ?_; rintro e w' ⟨rfl, rfl⟩
      rw [hsl]
      go_upto_region 3 with fail
      go_region
      have HV2 := hid (HV1.out.turn (w' := (w'.setCell ⟨b, 1 + k, none⟩ (.int .i8 (m : Int))).drew) rfl)
      have HO2 := hid HO1.out.drew
      generalize (w'.setCell ⟨b, 1 + k, none⟩ (.int .i8 (m : Int))).drew = w2 at HV2 HO2 ⊢
      clear c0 c1 c2 f2 HV1 HO1
      have c1 : w2.cell? ⟨b, 16449, none⟩ = some (.int .u64 (v.cur : Int)) := HV2.out.cur_
      have f1 := HV2.out.frozen 16449
      by_cases hmx : (v.cur : Int) < (l : Int)
      · have hmxx : max (v.cur : Int) (l : Int) = (l : Int) := by omega
        have HV3 := hid (HV2.out.setCur l)
        have HO3 := hid (Only.setCell HO2.out 16449 (.int .u64 (l : Int)))
        have HX : Hid (max v.cur l = l) := by show _ = _; omega
        go_upto_region 5 with fail
        go_wp2_with fail
        refine (rise_any b _ _ HV3.out HSl.out (by show l < _; omega)).mono ?_; rintro e w4 ⟨rfl, hv, ho⟩
        have HV4 : Hid (VB w4 b (winV v k l)) := by
          show VB w4 b (winV v k l)
          unfold winV
          rw [HX.out]; exact hv
        have HO4 := hid (HO3.out.trans ho)
        clear hv ho
        go_wp2
        go_ret
        exact vwin_yes HE.out HV4.out HO4.out
      · have hmxx : max (v.cur : Int) (l : Int) = (v.cur : Int) := by omega
        have HV3 := hid (HV2.out.setCur v.cur)
        have HO3 := hid (Only.setCell HO2.out 16449 (.int .u64 (v.cur : Int)))
        have HX : Hid (max v.cur l = v.cur) := by show _ = _; omega
        go_upto_region 5 with fail
        go_wp2_with fail
        refine (rise_any b _ _ HV3.out HSl.out (by have := HCu.out; show v.cur < _; omega)).mono ?_; rintro e w4 ⟨rfl, hv, ho⟩
        have HV4 : Hid (VB w4 b (winV v k l)) := by
          show VB w4 b (winV v k l)
          unfold winV
          rw [HX.out]; exact hv
        have HO4 := hid (HO3.out.trans ho)
        clear hv ho
        go_wp2
        go_ret
        exact vwin_yes HE.out HV4.out HO4.out
def GiveP (b : Nat) (v : Vw) (s n : Int) (w : World) (e : Ending) (w' : World) : Prop :=
  e = .returned (.int .i64 (giveE s n)) ∧ VB w' b (if giveE s n = 0 then ownV v s.toNat n.toNat else v) ∧ Only b w w'
theorem give_no1 {b : Nat} {v : Vw} {s n : Int} {w : World} (h : slotB s = false) (hV : VB w b v) : GiveP b v s n w (.returned (.int .i64 1)) w := by
  have e : giveE s n = 1 := by unfold giveE; rw [h]; simp
  refine ⟨by rw [e], ?_, Only.refl b w⟩
  rw [e, if_neg (by decide)]; exact hV
theorem give_no2 {b : Nat} {v : Vw} {s n : Int} {w : World} (h : slotB s = true) (hn : nodeB n = false) (hV : VB w b v) : GiveP b v s n w (.returned (.int .i64 150)) w := by
  have e : giveE s n = 150 := by unfold giveE; rw [if_pos h, if_neg (of_decide_eq_false hn)]
  refine ⟨by rw [e], ?_, Only.refl b w⟩
  rw [e, if_neg (by decide)]; exact hV
theorem give_yes2 {b : Nat} {v : Vw} {s n : Nat} {w w' : World} (h : slotB (s : Int) = true) (hn : nodeB (n : Int) = true) (hV : VB w' b (ownV v s n)) (ho : Only b w w') : GiveP b v s n w (.returned (.int .i64 0)) w' := by
  have e : giveE (s : Int) (n : Int) = 0 := by unfold giveE; rw [if_pos h, if_pos (of_decide_eq_true hn)]
  refine ⟨by rw [e], ?_, ho⟩
  rw [e, if_pos rfl]; exact hV
set_option maxHeartbeats 2000000 in
set_option maxRecDepth 100000 in
theorem give_any (b : Nat) (v : Vw) (s n : Int) (w : World) (hV : VB w b v) : Calls Tryz.prog 60 #[.pointer (some ⟨b, 0, none⟩), .int .i64 s, .int .i64 n] w (GiveP b v s n w) := by
  have HS := hid (isslot_any s w)
  have HN := hid (isnode_any n w)
  cases hsl : slotB s with
  | false =>
    have HR := hid (give_no1 (n := n) hsl hV)
    go_enter Tryz.func60, Tryz.ntmps60
    go_wp2_with fail
    refine HS.out.mono ?_; rintro e w' ⟨rfl, rfl⟩
    rw [hsl]
    go_wp2
    go_ret
    exact HR.out
  | true =>
    cases hn : nodeB n with
    | false =>
      have HR := hid (give_no2 hsl hn hV)
      go_enter Tryz.func60, Tryz.ntmps60
      go_wp2_with fail
      refine HS.out.mono ?_; rintro e w' ⟨rfl, rfl⟩
      rw [hsl]
      go_wp2_with fail
      refine HN.out.mono ?_; rintro e w' ⟨rfl, rfl⟩
      rw [hn]
      go_wp2
      go_ret
      exact HR.out
    | true =>
      have h := of_decide_eq_true hsl
      obtain ⟨k, rfl⟩ := Int.eq_ofNat_of_zero_le h.1
      have h2 := of_decide_eq_true hn
      obtain ⟨m, rfl⟩ := Int.eq_ofNat_of_zero_le h2.1
      have hk : k < 16384 := by omega
      have hm : m < 64 := by omega
      have hkz : (k : Int) < 16384 := by omega
      have hw8 : IntKind.i8.wrap (m : Int) = m := by rw [wrap_i8]; omega
      have c2 := hV.own_ hk
      have f2 := hV.frozen (1 + k)
      have hz : (m : Int) = ownZ m := by unfold ownZ; rw [if_pos hm]
      have HV1 : Hid (VB (w.setCell ⟨b, 1 + k, none⟩ (.int .i8 (m : Int))) b (ownV v k m)) := by
        rw [hz]; exact hV.setOwn hk
      have HO1 := hid (Only.setCell (Only.refl b w) (1 + k) (.int .i8 (m : Int)))
      have HR := hid (fun w' (h : VB w' b (ownV v k m)) ho => give_yes2 (w := w) hsl hn h ho)
      clear h h2 hz
      go_enter Tryz.func60, Tryz.ntmps60
      go_wp2_with fail
      refine HS.out.mono ?_; rintro e w' ⟨rfl, rfl⟩
      rw [hsl]
      go_wp2_with fail
      refine HN.out.mono ?_; rintro e w' ⟨rfl, rfl⟩
      rw [hn]
      go_wp2
      go_ret
      exact HR.out _ HV1.out HO1.out

theorem VB.one {w : World} {b : Nat} {v : Vw} (h : VB w b v) : ∃ C : Array Value, w.heap[b]? = some (.cells C 109 (0, 0)) ∧ C.size = 16450 ∧ C.all (·.oneCell') = true ∧ ∀ W c, W.heap[c]? = some (.cells C 109 (0, 0)) → VB W c v := by
  obtain ⟨C, h1, h2, h3, h4, h5, h6⟩ := h
  refine ⟨C, h1, h2, ?_, fun W c hc => ⟨C, hc, h2, h3, h4, h5, h6⟩⟩
  rw [Array.all_eq_true]
  intro i hi
  have key : ∀ x, C[i]? = some x → x.oneCell' = true → (C[i]'hi).oneCell' = true := fun x hx ho => by
    rw [Array.getElem?_eq_getElem hi] at hx
    rw [Option.some.inj hx]; exact ho
  by_cases e0 : i = 0
  · subst e0; exact key _ h3 rfl
  · by_cases e1 : i < 16385
    · exact key _ (by rw [show i = 1 + (i - 1) by omega]; exact h4 (i - 1) (by omega)) rfl
    · by_cases e2 : i < 16449
      · exact key _ (by rw [show i = 16385 + (i - 16385) by omega]; exact h5 (i - 16385) (by omega)) rfl
      · have : i = 16449 := by omega
        subst this; exact key _ h6 rfl
theorem infoV {C : Array Value} (h : C.size = 16450) : (Tryz.prog.info? 109).map (·.size) = some C.size := by rw [h]; kernel_rfl
set_option maxHeartbeats 2000000 in
set_option maxRecDepth 100000 in
/-- Clone -/
theorem clone_any (b : Nat) (v : Vw) (w : World) (hV : VB w b v) : Calls Tryz.prog 36 #[.pointer (some ⟨b, 0, none⟩)] w fun e w' => e = .returned (.pointer (some ⟨w.heap.size, 0, none⟩)) ∧ VB w' w.heap.size v ∧ Below w.heap.size w w' := by
  obtain ⟨C, h1, h2, h3, h4⟩ := hV.one
  obtain ⟨Z, z1, _, z2, z3⟩ := zview_any
  have iV := infoV h2
  have HC := hid h1
  have ON := hid h3
  have zC : Z.size = C.size := by rw [z1, h2]
  have HZ := hid (heap_alloc_new w (.cells Z 109))
  have HW := hid (below_alloc w (.cells Z 109))
  have HV4 := hid h4
  clear h1 h2 h3 h4 z1
  go_enter Tryz.func36, Tryz.ntmps36
  go_wp2_with (first | (refine wpList_load_row rfl 109 _ rfl b rfl 109 _ (0, 0) _ HC.out Tryz.underlying109 rfl iV ?_) | (refine wpList_store_row rfl 109 _ _ rfl w.heap.size C rfl rfl 109 _ HZ.out iV zC ON.out ?_))
  go_ret
  exact ⟨rfl, HV4.out _ _ (setRow_heap _ _ _ _ _ _ HZ.out), below_setRow HW.out (Nat.le_refl _) _⟩

end Go.Proofs.YtbfllifgmlkndaaGreatDoor

namespace Go.Proofs.YtbfllifgmlkndaaGreatDoor
open Go.RowKit
open Slot
attribute [local go_sem] Oper.semAt_some

/-! plain mathematics -/
/-- the slots of a set, rising -/
def slots (S : Nat → Bool) : List Nat := (List.range' 0 top).filter S
/-- the slots of ranges -/
def expand (l : List (Nat × Nat)) : List Nat := l.flatMap fun p => List.range' p.1 (p.2 + 1 - p.1)
theorem expand_snoc (l : List (Nat × Nat)) (p : Nat × Nat) : expand (l ++ [p]) = expand l ++ List.range' p.1 (p.2 + 1 - p.1) := by
  unfold expand
  rw [List.flatMap_append]
  simp
theorem filter_all {S : Nat → Bool} : ∀ (n m : Nat), (∀ k, m ≤ k → k < m + n → S k = true) → (List.range' m n).filter S = List.range' m n
  | 0, _, _ => rfl
  | n + 1, m, h => by
    rw [List.range'_succ, List.filter_cons_of_pos (h m (Nat.le_refl _) (by omega)), filter_all n (m + 1) (fun k h1 h2 => h k (by omega) (by omega))]
theorem filter_none {S : Nat → Bool} : ∀ (n m : Nat), (∀ k, m ≤ k → k < m + n → S k = false) → (List.range' m n).filter S = []
  | 0, _, _ => rfl
  | n + 1, m, h => by
    rw [List.range'_succ, List.filter_cons_of_neg (by rw [h m (Nat.le_refl _) (by omega)]; decide), filter_none n (m + 1) (fun k h1 h2 => h k (by omega) (by omega))]
theorem runs_expand {S : Nat → Bool} : ∀ {l : List (Nat × Nat)} {m : Nat}, m ≤ top → Runs S m l → (List.range' m (top - m)).filter S = expand l
  | [], m, hm, h => filter_none _ _ (fun k h1 h2 => h k h1 (by omega))
  | (f, t) :: l, m, hm, ⟨h1, h2, h3, h4, h5, h6, h7⟩ => by
    have e1 : List.range' m (top - m) = List.range' m (f - m) ++ (List.range' f (t + 1 - f) ++ List.range' (t + 1) (top - (t + 1))) := by
      have a1 := List.range'_append (s := f) (m := t + 1 - f) (n := top - (t + 1)) (step := 1)
      have a2 := List.range'_append (s := m) (m := f - m) (n := top - f) (step := 1)
      rw [show f + 1 * (t + 1 - f) = t + 1 by omega, show (t + 1 - f) + (top - (t + 1)) = top - f by omega] at a1
      rw [show m + 1 * (f - m) = f by omega, show (f - m) + (top - f) = top - m by omega] at a2
      rw [a1, a2]
    rw [e1, List.filter_append, List.filter_append, filter_none _ _ (fun k a b => h4 k a (by omega)), filter_all _ _ (fun k a b => h5 k a (by omega)), runs_expand (by omega) h7, List.nil_append]
    rfl
theorem slots_expand {S : Nat → Bool} {l : List (Nat × Nat)} (h : Runs S 0 l) : expand l = slots S := (runs_expand (Nat.zero_le _) h).symm
theorem slots_mem {S : Nat → Bool} {t : Nat} : t ∈ slots S ↔ t < top ∧ S t = true := by
  unfold slots
  rw [List.mem_filter, List.mem_range'_1]
  exact ⟨fun h => ⟨by omega, h.2⟩, fun h => ⟨by omega, h.2⟩⟩
theorem slots_len (S : Nat → Bool) : (slots S).length ≤ 16384 := by
  have := List.length_filter_le S (List.range' 0 top)
  rw [List.length_range'] at this
  exact this
theorem expand_take {l : List (Nat × Nat)} {i : Nat} (h : i < l.length) : expand (l.take (i + 1)) = expand (l.take i) ++ List.range' l[i].1 (l[i].2 + 1 - l[i].1) := by
  rw [List.take_succ_eq_append_getElem h, expand_snoc]
theorem expand_prefix (l : List (Nat × Nat)) (i : Nat) : expand (l.take i) <+: expand l := by
  conv => rhs; rw [← List.take_append_drop i l]
  unfold expand
  rw [List.flatMap_append]
  exact List.prefix_append _ _
/-- a slot -/
abbrev Sl := { x : Nat // x < 16384 }
/-- all rows of cells but block b lie as they lay -/
def KpB (b : Nat) (W W' : World) : Prop := ∀ (k : Nat) (C : Array Value) (t : TypeId) (fr : Nat × Nat), k ≠ b → W.heap[k]? = some (.cells C t fr) → W'.heap[k]? = some (.cells C t fr)
theorem kpb_t {b : Nat} {A B C : World} (h : KpB b A B) (k : KpB b B C) : KpB b A C := fun i X t fr hi hx => k i X t fr hi (h i X t fr hi hx)
theorem kpb_b {b : Nat} (W : World) (l : Nat) (o o' : Obj) (h : W.heap[l]? = some o) (hc : o.isCells = false) : KpB b W (W.putObj l o') := fun i X t fr _ hx => by
  by_cases e : i = l
  · subst e
    rw [h] at hx
    cases Option.some.inj hx
    cases hc
  · exact (World.putObj_heap_other e).trans hx
theorem kpb_below {b n : Nat} {W W' : World} (h : Below n W W') (hn : W.heap.size ≤ n) : KpB b W W' := fun i _ _ _ _ hx => (h.block i (Nat.lt_of_lt_of_le (Array.getElem?_eq_some_iff.1 hx).1 hn)).trans hx
theorem kpb_only {b : Nat} {W W' : World} (h : Only b W W') : KpB b W W' := fun i _ _ _ hi hx => (h.block i (Array.getElem?_eq_some_iff.1 hx).1 hi).trans hx
/-- the ranges in memory -/
def RowC (w : World) (g : Nat) (l : List (Nat × Nat)) : Prop := ∃ C t fr, w.heap[g]? = some (.cells C t fr) ∧ ∀ j (h : j < l.length), C[j * 2]? = some (.int .i64 (l[j].1 : Int)) ∧ C[j * 2 + 1]? = some (.int .i64 (l[j].2 : Int))
theorem RowC.kept {b g : Nat} {W W' : World} {l : List (Nat × Nat)} (h : RowC W g l) (hk : KpB b W W') (hg : g ≠ b) : RowC W' g l := by
  obtain ⟨C, t, fr, h1, h2⟩ := h
  exact ⟨C, t, fr, hk g C t fr hg h1, h2⟩
theorem RowC.cell {g : Nat} {W : World} {l : List (Nat × Nat)} (h : RowC W g l) {j : Nat} (hj : j < l.length) : W.cell? ⟨g, j * 2, none⟩ = some (.int .i64 (l[j].1 : Int)) ∧ W.cell? ⟨g, j * 2 + 1, none⟩ = some (.int .i64 (l[j].2 : Int)) := by
  obtain ⟨C, t, fr, h1, h2⟩ := h
  rw [cell_of_row _ _ _ _ _ _ h1, cell_of_row _ _ _ _ _ _ h1]
  exact h2 j hj
theorem owns_rowC {w : World} {B : Nat} {l : List (Nat × Nat)} {v : Value} (h : w.ownsRow B 116 2 v l.length (flat l)) : ∃ a cap, v = .slice a l.length cap ∧ (l ≠ [] → ∃ g, a = some ⟨g, 0, none⟩ ∧ B ≤ g ∧ RowC w g l) := by
  rcases h.2 with ⟨rfl, h0⟩ | ⟨g, cap, cur, rfl, hg, hh, h1, h2, h3, h4⟩
  · exact ⟨none, 0, by rw [h0], fun hne => absurd (List.length_eq_zero_iff.1 h0) hne⟩
  · refine ⟨_, cap, rfl, fun _ => ⟨g, rfl, hg, cur, _, _, hh, fun j hj => ?_⟩⟩
    obtain ⟨f1, f2⟩ := flat_get l j hj
    have key : ∀ i u, (flat l)[i]? = some u → cur[i]? = some u := fun i u hu => by
      have hi := (List.getElem?_eq_some_iff.1 hu).1
      rw [flat_length] at hi
      have := congrArg (fun x : List Value => x[i]?) h4
      simp only [List.getElem?_take, if_pos hi] at this
      rw [hu] at this
      simpa using this
    exact ⟨key _ _ f1, key _ _ f2⟩
set_option maxHeartbeats 1000000 in
/-- slotsOf -/
theorem slotsof_any (S : Nat → Bool) (w : World) : Calls Tryz.prog 76 #[.agg (cellsOf S)] w fun e w' => e = .returned (.func (.func 93) #[] #[.pointer (some ⟨w.heap.size, 0, none⟩)]) ∧ w' = w.alloc (.cells (cellsOf S) 24) := by
  generalize cellsOf S = C
  go_enter Tryz.func76, Tryz.ntmps76
  go_wp2
  go_ret
  exact ⟨rfl, rfl⟩

end Go.Proofs.YtbfllifgmlkndaaGreatDoor

namespace Go.Proofs.YtbfllifgmlkndaaGreatDoor
open Go.RowKit Go.Shelf
open Slot
attribute [local go_sem] Oper.semAt_some

theorem abides_below {β : Type} {B : Nat} {J : β → World → Prop} (h : AbidesFrom B J) {s : β} {W W' : World} (hs : J s W) (hb : Below W.heap.size W W') : J s W' :=
  h s W W' none hs ⟨hb.os, hb.tape, hb.output, hb.size, fun k hk _ => hb.block k hk⟩ (fun r e => by cases e)
theorem range_snoc {f m : Nat} (h : f ≤ m) : List.range' f (m + 1 - f) = List.range' f (m - f) ++ [m] := by
  rw [show m + 1 - f = (m - f) + 1 by omega, List.range'_concat]
  simp; omega
theorem pre_slots {S : Nat → Bool} {L : List (Nat × Nat)} {i m f t : Nat} (hi : i < L.length) (hL : expand L = slots S) (hf : L[i].1 = f) (ht : L[i].2 = t) (hm : m ≤ t) (hfm : f ≤ m) : expand (L.take i) ++ List.range' f (m + 1 - f) <+: slots S := by
  rw [← hL]
  refine List.IsPrefix.trans ?_ (expand_prefix L (i + 1))
  rw [expand_take hi, hf, ht]
  refine (List.prefix_append_right_inj _).2 ?_
  have := List.range'_append (s := f) (m := m + 1 - f) (n := t - m) (step := 1)
  rw [show (m + 1 - f) + (t - m) = t + 1 - f by omega] at this
  rw [← this]
  exact List.prefix_append _ _
theorem pre_len {S : Nat → Bool} {p : List Sl} {l : List Nat} {m : Nat} (hp : p.map (·.1) = l) (h : l ++ [m] <+: slots S) : p.length < 16384 := by
  have h1 := h.length_le
  have h2 := slots_len S
  have h3 := congrArg List.length hp
  rw [List.length_map] at h3
  rw [List.length_append] at h1
  simp at h1
  omega
set_option maxRecDepth 100000 in
set_option maxHeartbeats 4000000 in
theorem slots_stops (n bn b : Nat) (S : Nat → Bool) (w : World) (hn : 1 ≤ n) (hB : Box w bn S) (hb : b < w.heap.size) : SeqStopsK Fence.wide n Tryz.prog 93 #[.pointer (some ⟨bn, 0, none⟩)] (fun x : Sl => #[.int .i64 (x.1 : Int)]) (KpB b) (fun xs => xs.map (·.1) = slots S) (fun pre => pre.map (·.1) <+: slots S) 16384 w := by
  intro l J Jx W hW hJ hJx hY h0
  have HB := hid (hB.below hW hB.lt)
  have HRg := hid (ranges_any S W)
  have hbW : b < W.heap.size := Nat.lt_of_lt_of_le hb hW.size
  have HbW := hid hbW
  have HJ := hid hJ
  have HY := hid hY
  have HJ0 := hid h0
  clear hB hW hJ hJx hY h0 hb hbW
  refine callsIn_of_wp Tryz.func93 rfl trivial ?_ rfl
  simp only [Tryz.ntmps93, List.size_toArray, List.length_cons, List.length_nil, Nat.reduceAdd, Nat.reduceSub, Array.replicate_succ, Array.replicate_zero, List.push_toArray, List.append_toArray, List.nil_append, List.cons_append]
  refine wpIn_seq (wpIn_wide.2 ?_)
  go_wp2_with (refine wpList_load_row rfl 24 _ rfl bn rfl 24 _ (0, 0) _ HB.out Tryz.underlying24 rfl (infoBits _) ?_)
  refine HRg.out.mono ?_; rintro e W1 ⟨⟨L, v, rfl, hR, ho⟩, hb1⟩
  obtain ⟨a, cap, rfl, hrow⟩ := owns_rowC ho
  have HJ1 := hid (abides_below HJ.out HJ0.out hb1)
  have HL := hid (slots_expand hR)
  have HV := hid hR.valid
  have HRow := hid hrow
  have hl1 : L.length ≤ 16384 := by have := hR.length (Nat.zero_le _); unfold top at this; omega
  have HbW1 : Hid (b < W1.heap.size) := Nat.lt_of_lt_of_le HbW.out hb1.size
  have HBase : Hid (b < W.heap.size + 2) := by have := HbW.out; show b < _; omega
  clear hR ho hrow hb1
  go_wp2_with fail
  gi_wp2
  gi_loopw [9] (fun c9 wr => ∃ (i : Nat) (pre : List Sl), c9 = .int .i64 (i : Int) ∧ i ≤ L.length ∧ Hid (pre.map (·.1) = expand (L.take i)) ∧ Hid (J pre wr) ∧ Hid (L ≠ [] → ∃ g, a = some ⟨g, 0, none⟩ ∧ W.heap.size + 2 ≤ g ∧ RowC wr g L) ∧ Hid (b < wr.heap.size)) (fun c9 _ => L.length - (intOf c9).toNat)
  case atStart => exact ⟨0, [], rfl, Nat.zero_le _, rfl, HJ1.out, HRow.out, HbW1.out⟩
  case round =>
    obtain ⟨i, pre, rfl, hi, HP, HJi, HRi, Hbi⟩ := hrel
    by_cases hlt : i < L.length
    · obtain ⟨g, rfl, hg, hrw⟩ := HRi.out (fun e => by rw [e] at hlt; exact absurd hlt (Nat.not_lt_zero _))
      obtain ⟨f, hf⟩ : ∃ f, L[i].1 = f := ⟨_, rfl⟩
      obtain ⟨t, ht⟩ : ∃ t, L[i].2 = t := ⟨_, rfl⟩
      obtain ⟨c0, c1⟩ := hrw.cell hlt
      rw [hf] at c0
      rw [ht] at c1
      have hv := HV.out L[i] (List.getElem_mem hlt)
      rw [hf, ht] at hv
      have HFt := hid hv
      have HPr : Hid (∀ m, m ≤ t → f ≤ m → expand (L.take i) ++ List.range' f (m + 1 - f) <+: slots S) := fun m h1 h2 => pre_slots hlt HL.out hf ht h1 h2
      have HNx : Hid (expand (L.take (i + 1)) = expand (L.take i) ++ List.range' f (t + 1 - f)) := by
        show _ = _
        rw [expand_take hlt, hf, ht]
      have hiz : (i : Int) < (L.length : Int) := by omega
      have HGb : Hid (g ≠ b) := by have := HBase.out; show g ≠ b; omega
      have HNb : Hid (b < wr.heap.size) := Hbi.out
      have HR0 := hid (hrw.kept (kpb_below (b := b) (below_alloc wr (.cells #[.int .i64 (f : Int), .int .i64 (t : Int)] 116)) (Nat.le_refl _)) HGb.out)
      have HJ0 := hid (abides_below HJ.out HJi.out (below_alloc wr (.cells #[.int .i64 (f : Int), .int .i64 (t : Int)] 116)))
      have HC0 := hid (heap_alloc_new wr (.cells #[.int .i64 (f : Int), .int .i64 (t : Int)] 116))
      have Hb0 : Hid (b < (wr.alloc (.cells #[.int .i64 (f : Int), .int .i64 (t : Int)] 116)).heap.size) := by have := Hbi.out; show b < _; simp; omega
      have hc0 : (wr.alloc (.cells #[.int .i64 (f : Int), .int .i64 (t : Int)] 116)).cell? ⟨wr.heap.size, 0, none⟩ = some (.int .i64 (f : Int)) := cell_of_row _ _ _ _ _ _ HC0.out
      clear hrw hf ht hv HRi
      gi_wp2
      generalize wr.alloc (.cells #[.int .i64 (f : Int), .int .i64 (t : Int)] 116) = w0 at *
      generalize wr.heap.size = n0 at *
      gi_loopw [5] (fun c5 wi => ∃ (m : Nat) (pre2 : List Sl), c5 = .int .i64 (m : Int) ∧ f ≤ m ∧ m ≤ t + 1 ∧ Hid (pre2.map (·.1) = expand (L.take i) ++ List.range' f (m - f)) ∧ Hid (J pre2 wi) ∧ Hid (RowC wi g L) ∧ Hid (∃ fr, wi.heap[n0]? = some (.cells #[.int .i64 (f : Int), .int .i64 (t : Int)] 116 fr)) ∧ Hid (b < wi.heap.size)) (fun c5 _ => t + 1 - (intOf c5).toNat)
      case atStart => exact ⟨f, pre, rfl, Nat.le_refl _, by have := HFt.out; omega, by show _ = _; rw [HP.out]; simp, HJ0.out, HR0.out, ⟨_, HC0.out⟩, Hb0.out⟩
      case round =>
        obtain ⟨m, pre2, rfl, hm1, hm2, HP2, HJm, HRm, HCm, Hbm⟩ := hrel
        obtain ⟨fr, hfr⟩ := HCm.out
        have ct : wr.cell? ⟨n0, 1, none⟩ = some (.int .i64 (t : Int)) := cell_of_row _ _ _ _ _ _ hfr
        by_cases hmt : m ≤ t
        · have hmz : (m : Int) ≤ (t : Int) := by omega
          have hpr := HPr.out m hmt hm1
          rw [range_snoc hm1, ← List.append_assoc] at hpr
          have hm16 : m < 16384 := by have := HFt.out.2; unfold top at this; omega
          obtain ⟨fn, tmps, assign, body, hy, hR⟩ := HY.out pre2 ⟨m, hm16⟩ wr HJm.out (pre_len HP2.out hpr)
          dsimp only at hy
          have HPx : Hid ((pre2 ++ [(⟨m, hm16⟩ : Sl)]).map (·.1) = expand (L.take i) ++ List.range' f (m + 1 - f)) := by
            show _ = _
            rw [List.map_append, HP2.out, range_snoc hm1, ← List.append_assoc]
            rfl
          have HPz := hid hpr
          clear hpr
          gi_wp2
          refine hR.mono ?_
          rintro e W3 (⟨rfl, hJ3, hk3⟩ | ⟨rfl, hJx3⟩)
          · have HR3 := hid (HRm.out.kept hk3 HGb.out)
            have HC3 : Hid (∃ fr, W3.heap[n0]? = some (.cells #[.int .i64 (f : Int), .int .i64 (t : Int)] 116 fr)) := ⟨fr, hk3 _ _ _ _ (Nat.ne_of_gt HNb.out) hfr⟩
            have HR3b := hid hJ3
            have Hb3 : Hid (b < W3.heap.size) := by
              obtain ⟨fr2, h1⟩ := HC3.out
              have := (Array.getElem?_eq_some_iff.1 h1).1
              exact Nat.lt_trans HNb.out this
            clear hJ3 hk3 hfr ct
            gi_wp2
            go_roundw
            case rel => exact ⟨m + 1, pre2 ++ [(⟨m, hm16⟩ : Sl)], by go_num, by omega, by omega, HPx.out, HR3b.out, HR3.out, HC3.out, Hb3.out⟩
            case measure => simp [intOf]; omega
          · have HX := hid hJx3
            clear hJx3 hfr ct
            gi_wp2
            refine bodyPost_ret (results_none rfl _ _ _) rfl ?_
            refine ⟨⟨_, rfl⟩, .inr ⟨pre2 ++ [(⟨m, hm16⟩ : Sl)], ?_, HX.out⟩⟩
            rw [HPx.out, range_snoc hm1, ← List.append_assoc]
            exact HPz.out
        · obtain rfl : m = t + 1 := by omega
          have HPn : Hid (pre2.map (·.1) = expand (L.take (i + 1))) := by show _ = _; rw [HNx.out]; exact HP2.out
          clear hfr
          have hmz : ((t : Int) + 1 ≤ (t : Int)) = False := by simp; omega
          gi_wp2
          go_roundw
          case rel => exact ⟨i + 1, pre2, by go_num, by omega, HPn.out, HJm.out, fun _ => ⟨g, rfl, hg, HRm.out⟩, Hbm.out⟩
          case measure => simp [intOf]; omega
    · obtain rfl : i = L.length := by omega
      have HPf : Hid (pre.map (·.1) = slots S) := by
        have := HP.out
        rw [List.take_length, HL.out] at this
        exact this
      gi_wp2
      go_end0
      exact ⟨⟨_, rfl⟩, .inl ⟨pre, HPf.out, HJi.out⟩⟩

end Go.Proofs.YtbfllifgmlkndaaGreatDoor

namespace Go.Proofs.YtbfllifgmlkndaaGreatDoor
open Go.RowKit Go.Shelf
open Slot
attribute [local go_sem] Oper.semAt_some

theorem VB.congr {w : World} {b : Nat} {v v' : Vw} (h : VB w b v) (h1 : v'.self = v.self) (h2 : ∀ s, s < 16384 → v'.own s = v.own s) (h3 : ∀ n, n < 64 → v'.ep n = v.ep n) (h4 : v'.cur = v.cur) : VB w b v' := by
  obtain ⟨C, c1, c2, c3, c4, c5, c6⟩ := h
  exact ⟨C, c1, c2, by rw [h1]; exact c3, fun s hs => by rw [h2 s hs]; exact c4 s hs, fun n hn => by rw [h3 n hn]; exact c5 n hn, by rw [h4]; exact c6⟩
/-- the owners as they are read at once -/
theorem VB.owners {w : World} {b : Nat} {v : Vw} (h : VB w b v) : ∃ OW : Array Value, OW.size = 16384 ∧ (∀ s, s < 16384 → OW[s]? = some (.int .i8 (ownZ (v.own s)))) ∧ w.rangeAt b 1 OW.toList := by
  obtain ⟨C, c1, c2, c3, c4, c5, c6⟩ := h
  refine ⟨C.extract 1 16385, by rw [Array.size_extract, c2]; decide, fun s hs => ?_, fun j u hu => ?_⟩
  · rw [Array.getElem?_extract, if_pos (by omega)]; exact c4 s hs
  · have hj : j < 16384 := by
      have := (List.getElem?_eq_some_iff.1 hu).1
      rwa [Array.length_toList, Array.size_extract, c2] at this
    rw [Array.getElem?_toList, Array.getElem?_extract, if_pos (by omega)] at hu
    rw [cell_of_row w b _ _ _ _ c1]; exact hu
theorem index_own {OW : Array Value} {z : Value} {s : Nat} (hs : s < 16384) (h : OW[s]? = some z) (w : World) : (Instr.index 106 (.agg OW) (.int .i64 (s : Int))).run Tryz.prog w = .ok z w := by
  have h1 : (0 : Int) ≤ (s : Int) ∧ (s : Int) < 16384 := by omega
  simp [Instr.index, asIntOf, run_underlying Tryz.underlying106, hs, h1, part, Tryz.isAgg105, Tryz.sizeOf105, h]
theorem infoOwn {OW : Array Value} (h : OW.size = 16384) : (Tryz.prog.info? 106).map (·.size) = some OW.toList.length := by
  rw [Array.length_toList, h]; kernel_rfl
/-- the view with the epoch, and the slots below k given up -/
def bl1 (v : Vw) (n e : Nat) : Vw := { v with ep := fun m => if m = n then e else v.ep m }
def bl2 (v : Vw) (n e k : Nat) : Vw := { bl1 v n e with own := fun s => if s < k ∧ v.own s = n then 64 else v.own s }
/-- the view with the slots of a list taken -/
def bl3 (v : Vw) (n e : Nat) (l : List Nat) : Vw := { bl1 v n e with own := fun s => if s ∈ l ∧ ((bl2 v n e 16384).own s = 64 ∨ (bl1 v n e).ep ((bl2 v n e 16384).own s) < e) then n else (bl2 v n e 16384).own s }
theorem bl2_step {v : Vw} {n e k : Nat} {w : World} {b : Nat} (h : VB w b (bl2 v n e k)) (hk : k < 16384) (hn : v.own k = n) : VB (w.setCell ⟨b, 1 + k, none⟩ (.int .i8 (-1))) b (bl2 v n e (k + 1)) := by
  have := h.setOwn (n := 64) hk
  rw [show ownZ 64 = -1 from rfl] at this
  refine this.congr rfl (fun s _ => ?_) (fun _ _ => rfl) rfl
  show (if s < k + 1 ∧ v.own s = n then 64 else v.own s) = if s = k then 64 else (if s < k ∧ v.own s = n then 64 else v.own s)
  by_cases c : s = k
  · rw [c, if_pos ⟨Nat.lt_succ_self _, hn⟩, if_pos rfl]
  · rw [if_neg c]
    by_cases d : s < k ∧ v.own s = n
    · rw [if_pos d, if_pos ⟨by omega, d.2⟩]
    · rw [if_neg d, if_neg (fun x => d ⟨by omega, x.2⟩)]
theorem bl2_same {v : Vw} {n e k : Nat} {w : World} {b : Nat} (h : VB w b (bl2 v n e k)) (hn : v.own k ≠ n) : VB w b (bl2 v n e (k + 1)) := by
  refine h.congr rfl (fun s _ => ?_) (fun _ _ => rfl) rfl
  show (if s < k + 1 ∧ v.own s = n then 64 else v.own s) = if s < k ∧ v.own s = n then 64 else v.own s
  by_cases d : s < k ∧ v.own s = n
  · rw [if_pos d, if_pos ⟨by omega, d.2⟩]
  · rw [if_neg d, if_neg (fun x => d ⟨by
      have := x.1
      have : s ≠ k := fun c => hn (by rw [← c]; exact x.2)
      omega, x.2⟩)]
/-- is it taken? -/
def tkB (v : Vw) (n e : Nat) (l : List Nat) (x : Nat) : Prop := (bl3 v n e l).own x = 64 ∨ (bl1 v n e).ep ((bl3 v n e l).own x) < e
theorem bl3_at {v : Vw} {n e : Nat} {l : List Nat} {x : Nat} : (bl3 v n e l).own x = n ∨ (bl3 v n e l).own x = (bl2 v n e 16384).own x := by
  show (if _ then n else _) = n ∨ (if _ then n else _) = _
  split
  · exact .inl rfl
  · exact .inr rfl
theorem bl3_take {v : Vw} {n e : Nat} {w : World} {b x : Nat} {l : List Nat} (h : VB w b (bl3 v n e l)) (hx : x < 16384) (hn : n < 64) (ht : tkB v n e l x) : VB (w.setCell ⟨b, 1 + x, none⟩ (.int .i8 (n : Int))) b (bl3 v n e (l ++ [x])) := by
  have hz : (n : Int) = ownZ n := by unfold ownZ; rw [if_pos hn]
  rw [hz]
  refine (h.setOwn (n := n) hx).congr rfl (fun s _ => ?_) (fun _ _ => rfl) rfl
  have hne : ¬ ((n = 64) ∨ (bl1 v n e).ep n < e) := by
    show ¬ ((n = 64) ∨ (if n = n then e else v.ep n) < e)
    rw [if_pos rfl]; omega
  have hbx : (bl2 v n e 16384).own x = 64 ∨ (bl1 v n e).ep ((bl2 v n e 16384).own x) < e := by
    rcases bl3_at (v := v) (e := e) (l := l) (x := x) with c | c
    · unfold tkB at ht; rw [c] at ht; exact absurd ht hne
    · unfold tkB at ht; rw [c] at ht; exact ht
  show (if s ∈ l ++ [x] ∧ ((bl2 v n e 16384).own s = 64 ∨ (bl1 v n e).ep ((bl2 v n e 16384).own s) < e) then n else (bl2 v n e 16384).own s) = if s = x then n else (if s ∈ l ∧ ((bl2 v n e 16384).own s = 64 ∨ (bl1 v n e).ep ((bl2 v n e 16384).own s) < e) then n else (bl2 v n e 16384).own s)
  by_cases c : s = x
  · subst c
    rw [if_pos rfl, if_pos ⟨by simp, hbx⟩]
  · rw [if_neg c]
    by_cases d : s ∈ l
    · by_cases q : (bl2 v n e 16384).own s = 64 ∨ (bl1 v n e).ep ((bl2 v n e 16384).own s) < e
      · rw [if_pos ⟨List.mem_append_left _ d, q⟩, if_pos ⟨d, q⟩]
      · rw [if_neg (fun z => q z.2), if_neg (fun z => q z.2)]
    · rw [if_neg (fun z => by
        rcases List.mem_append.1 z.1 with y | y
        · exact d y
        · exact c (List.mem_singleton.1 y)), if_neg (fun z => d z.1)]
theorem bl3_keep {v : Vw} {n e : Nat} {w : World} {b x : Nat} {l : List Nat} (h : VB w b (bl3 v n e l)) (ht : ¬ tkB v n e l x) : VB w b (bl3 v n e (l ++ [x])) := by
  refine h.congr rfl (fun s _ => ?_) (fun _ _ => rfl) rfl
  show (if s ∈ l ++ [x] ∧ ((bl2 v n e 16384).own s = 64 ∨ (bl1 v n e).ep ((bl2 v n e 16384).own s) < e) then n else (bl2 v n e 16384).own s) = (if s ∈ l ∧ ((bl2 v n e 16384).own s = 64 ∨ (bl1 v n e).ep ((bl2 v n e 16384).own s) < e) then n else (bl2 v n e 16384).own s)
  by_cases d : s ∈ l
  · by_cases q : (bl2 v n e 16384).own s = 64 ∨ (bl1 v n e).ep ((bl2 v n e 16384).own s) < e
    · rw [if_pos ⟨List.mem_append_left _ d, q⟩, if_pos ⟨d, q⟩]
    · rw [if_neg (fun z => q z.2), if_neg (fun z => q z.2)]
  · by_cases c : s = x
    · subst c
      have e1 : (bl3 v n e l).own s = (bl2 v n e 16384).own s := if_neg (fun z => d z.1)
      rw [if_neg (fun z => ht (by unfold tkB; rw [e1]; exact z.2)), if_neg (fun z => d z.1)]
    · rw [if_neg (fun z => by
        rcases List.mem_append.1 z.1 with y | y
        · exact d y
        · exact c (List.mem_singleton.1 y)), if_neg (fun z => d z.1)]
theorem bl3_end {v : Vw} {n : Nat} {p : Pk} {w : World} {b : Nat} (h : VB w b (bl3 v n p.epoch (slots p.cl))) : VB w b (claimV v n p) := by
  refine h.congr rfl (fun s hs => ?_) (fun _ _ => rfl) rfl
  show (if p.cl s then (if v.own s = 64 ∨ v.own s = n ∨ v.ep (v.own s) < p.epoch then n else v.own s) else (if v.own s = n then 64 else v.own s)) = (if s ∈ slots p.cl ∧ ((if s < 16384 ∧ v.own s = n then 64 else v.own s) = 64 ∨ (if (if s < 16384 ∧ v.own s = n then 64 else v.own s) = n then p.epoch else v.ep (if s < 16384 ∧ v.own s = n then 64 else v.own s)) < p.epoch) then n else (if s < 16384 ∧ v.own s = n then 64 else v.own s))
  cases hc : p.cl s with
  | false =>
    simp only [Bool.false_eq_true, if_false]
    rw [if_neg (show ¬ (s ∈ slots p.cl ∧ _) from fun z => by have := (slots_mem.1 z.1).2; rw [hc] at this; cases this)]
    by_cases c : v.own s = n
    · rw [if_pos c, if_pos ⟨hs, c⟩]
    · rw [if_neg c, if_neg (fun z => c z.2)]
  | true =>
    have hm : s ∈ slots p.cl := slots_mem.2 ⟨hs, hc⟩
    simp only [if_true]
    by_cases c : v.own s = n
    · rw [if_pos (.inr (.inl c)), if_pos (show s < 16384 ∧ v.own s = n from ⟨hs, c⟩), if_pos ⟨hm, .inl rfl⟩]
    · rw [if_neg (show ¬ (s < 16384 ∧ v.own s = n) from fun z => c z.2), if_neg c]
      by_cases d : v.own s = 64 ∨ v.ep (v.own s) < p.epoch
      · rw [if_pos (by rcases d with d | d; exact .inl d; exact .inr (.inr d)), if_pos ⟨hm, d⟩]
      · rw [if_neg (fun z => by rcases z with z | z | z; exact d (.inl z); exact c z; exact d (.inr z)), if_neg (fun z => d z.2)]

end Go.Proofs.YtbfllifgmlkndaaGreatDoor

namespace Go.Proofs.YtbfllifgmlkndaaGreatDoor
open Go.RowKit Go.Shelf

theorem rows_round {P : Program} {l n : Nat} {row : String} {args : Array Value} {w : World} {R : Value → World → Prop} (h : Rows P row args w R) : RowsIn (Fence.wide.inRound l) n P row args w R := fun c cs _ => by
  obtain ⟨v, w', r, s⟩ := h c cs
  exact ⟨v, w', r, stepsIn_wide.2 s⟩
theorem calls_round {P : Program} {l n : Nat} {f : FuncId} {args : Array Value} {w : World} {R : Ending → World → Prop} (h : Calls P f args w R) : CallsIn (Fence.wide.inRound l) n P f args w R := CallsIn.inRound l (callsIn_wide.2 h)
theorem oper_round {P : Program} {l n : Nat} {o : Oper} {a : Act} {w : World} {K : Act → World → Prop} {Q : Exit → Act → World → Prop} (hd : ∀ c, o.op ≠ .defer c) (h : o.wp P a w K Q) : o.wpIn (Fence.wide.inRound l) n P a w K Q := by
  refine ⟨fun _ _ => trivial, ?_⟩
  show o.uponIn _ n P a K Q ((o.semAt (some l) a.eval).run P w)
  rw [Oper.semAt_some l a.eval o hd]
  unfold Oper.wp at h
  generalize (execOp a.eval o).run P w = r at *
  cases r with
  | ok x w' =>
    cases x <;> simp only [Oper.upon, Oper.uponIn] at h ⊢ <;>
      first
        | exact h
        | exact ⟨fun c => (by cases c), calls_round h⟩
        | exact ⟨fun c => (by cases c), rows_round h⟩
  | halt x w' => cases x <;> simp only [Oper.upon, Oper.uponIn] at h ⊢ <;> exact h
def noDefer (o : Oper) : Bool := match o.op with
  | .defer _ => false
  | _ => true
theorem noDefer_spec {o : Oper} (h : noDefer o = true) (c) : o.op ≠ .defer c := fun e => by
  unfold noDefer at h
  rw [e] at h
  cases h
theorem wpOp_round {P : Program} {l n : Nat} {ops : Array Oper} {i : Nat} {a : Act} {w : World} {K : Act → World → Prop} {Q : Exit → Act → World → Prop} (hq : ¬ LetsOut Q) (hd : ops.all noDefer = true) (h : wpOp P ops Q i K a w) : wpOpIn (Fence.wide.inRound l) n P ops Q i K a w := by
  unfold wpOp at h
  unfold wpOpIn
  cases ho : ops[i]? with
  | none => rw [ho] at h; exact h
  | some o =>
    simp only [ho] at h ⊢
    have hdo : noDefer o = true := by
      rw [Array.all_eq_true_iff_forall_mem] at hd
      exact hd o (Array.mem_of_getElem? ho)
    by_cases hw : Region.wanted o (yielded ops a.tmps) = true
    · simp only [hw, if_true] at h ⊢
      rcases h with h | ⟨-, h⟩
      · exact oper_round (noDefer_spec hdo) h
      · exact absurd h hq
    · simp only [hw] at h ⊢
      exact ⟨fun _ _ => trivial, h⟩
theorem wpAny_round {P : Program} {l n : Nat} {md : Region.Mode} {ops : Array Oper} {Q : Exit → Act → World → Prop} (hq : ¬ LetsOut Q) (hd : ops.all noDefer = true) : ∀ (fuel : Nat) (listed : Array Bool) (a : Act) (w : World), wpAny P md ops Q fuel listed a w → wpAnyIn (Fence.wide.inRound l) n P md ops Q fuel listed a w
  | 0, _, _, _, h => h
  | fuel + 1, _, _, _, h => ⟨h.1, fun i hi => wpOpIn_mono (fun a w h => wpAny_round hq hd fuel _ a w h) (wpOp_round hq hd (h.2 i hi))⟩
/-- a region in a round, begun as wp_region_held_drew begins -/
theorem region_round {P : Program} {l n : Nat} {id : Nat} {ops : Array Oper} {Q : Exit → Act → World → Prop} {a : Act} {w : World} {S : World → Prop} (hm : P.follows .mixedOrders = true) (hq : ¬ LetsOut Q) (hd : ops.all noDefer = true) (hS : S w.drew)
    (h : S w.drew → wpAnyH P .any ops Q S ops.size (Array.replicate ops.size false) a w.drew) : (Code.region id ops true).wpIn (Fence.wide.inRound l) n P Q a w :=
  wpIn_region_any hm (wpAny_round hq hd _ _ _ _ (wpAny_of_held _ _ _ _ (h hS)))

end Go.Proofs.YtbfllifgmlkndaaGreatDoor
