/- VpA, VpB. -/
import Derived.Deep.DeepCutAuto
import Derived.Test.YtdicjnkbmlamgabM11
import Derived.Test.YtdicjnkbmlamgabM12
namespace Go.Proofs.Ytdicjnkbmlamgab
open Go.RowKit
open Slot

theorem VB.only {w w' : World} {c b : Nat} {v : Vw} (h : VB w b v) (hb : Only c w w') (hn : b ≠ c) : VB w' b v := h.turn (hb.block b h.lt hn)
/-- of whom a packet tells -/
def clI (p : Pk) : Int := if p.kind = 3 then p.of_ else p.frm
set_option maxHeartbeats 1000000 in
theorem claimant_any (p : Pk) (w : World) : Calls Try.prog 20 #[.agg (pkCells p)] w fun e w' => e = .returned (.int .i64 (clI p)) ∧ Below w.heap.size w w' := by
  have HP := hid (pbox_new w p)
  have HW := hid (below_alloc w (.cells (pkCells p) 29))
  obtain ⟨p0, p1, p2, p3, p4⟩ := HP.out.cells
  have HC : Hid (clI p = if p.kind = 3 then p.of_ else p.frm) := rfl
  generalize clI p = R at *
  generalize p.kind = K at *
  generalize p.of_ = O at *
  generalize p.frm = F at *
  generalize pkCells p = PC at *
  by_cases hk : K = 3
  · subst hk
    have HR : Hid (R = O) := by show _ = _; rw [HC.out, if_pos rfl]
    go_enter Try.func20, Try.ntmps20
    go_wp2
    go_ret
    exact ⟨by rw [HR.out]; rfl, HW.out⟩
  · have hk2 : (K == 3) = false := beq_eq_false_iff_ne.2 hk
    have HR : Hid (R = F) := by show _ = _; rw [HC.out, if_neg hk]
    go_enter Try.func20, Try.ntmps20
    go_wp2
    go_ret
    exact ⟨by rw [HR.out]; rfl, HW.out⟩
set_option maxHeartbeats 2000000 in
/-- rise -/
theorem rise_any (b : Nat) (v : Vw) (w : World) (hV : VB w b v) (hs : v.self < 64) (hc : v.cur < 9223372036854775808) : Calls Try.prog 23 #[.pointer (some ⟨b, 0, none⟩)] w fun e w' => e = .returned (.tuple #[]) ∧ VB w' b (raiseV v) ∧ Only b w w' := by
  have c0 := hV.self_
  have c1 := hV.cur_
  have f1 := hV.frozen 16449
  obtain ⟨M, hM⟩ : ∃ M, M = v.cur + 1 := ⟨_, rfl⟩
  have hM1 : (v.cur : Int) + 1 = (M : Int) := by omega
  have hM2 : IntKind.u64.wrap (M : Int) = M := by rw [IntKind.wrap_u64]; omega
  have HV1 := hid (hV.setCur M)
  have HO1 := hid (Only.setCell (Only.refl b w) 16449 (.int .u64 (M : Int)))
  have HE : Hid (raiseV v = { { v with cur := M } with ep := fun m => if m = v.self then M else v.ep m }) := by show _ = _; rw [hM]; rfl
  have HS := hid hs
  have hsz : (v.self : Int) < 64 := by omega
  clear hM hs hc
  go_enter Try.func23, Try.ntmps23
  go_upto_region 1 with fail
  generalize w.setCell ⟨b, 16449, none⟩ (.int .u64 (M : Int)) = w1 at *
  clear c0 c1 f1
  have c0 := HV1.out.self_
  have c1 := HV1.out.cur_
  have c2 := HV1.out.ep_ HS.out
  have f2 := HV1.out.frozen (16385 + v.self)
  have HV2 := hid (HV1.out.setEp HS.out M)
  have HO2 := hid (Only.setCell HO1.out (16385 + v.self) (.int .u64 (M : Int)))
  dsimp only at c0 c1 c2
  go_region
  go_wp2
  go_end0
  exact ⟨rfl, by rw [HE.out]; exact HV2.out.turn rfl, HO2.out.drew⟩

end Go.Proofs.Ytdicjnkbmlamgab

namespace Go.Proofs.Ytdicjnkbmlamgab
open Go.RowKit
open Slot

theorem wrap_i8 (n : Int) : IntKind.i8.wrap n = (n + 128) % 256 - 128 := by
  simp only [IntKind.wrap, IntKind.bits, IntKind.signed]
  simp
  omega
theorem winE_out {s : Int} (l : Nat) (h : slotB s = false) : winE s l = 1 := by unfold winE; rw [h]; simp
theorem winE_great {s : Int} {l : Nat} (h : 4611686018427387904 < l) : winE s l = 1 := by
  unfold winE
  rw [if_neg (fun c => by have := c.2; unfold big at this; omega)]
theorem winE_in {s : Int} {l : Nat} (hs : slotB s = true) (h : l ≤ 4611686018427387904) : winE s l = 0 := by
  unfold winE
  rw [if_pos ⟨hs, h⟩]
def WinP (b : Nat) (v : Vw) (s : Int) (l : Nat) (w : World) (e : Ending) (w' : World) : Prop :=
  e = .returned (.int .i64 (winE s l)) ∧ VB w' b (if winE s l = 0 then winV v s.toNat l else v) ∧ Only b w w'
theorem vwin_no {b : Nat} {v : Vw} {s : Int} {l : Nat} {w : World} (h : winE s l = 1) (hV : VB w b v) : WinP b v s l w (.returned (.int .i64 1)) w := by
  refine ⟨by rw [h], ?_, Only.refl b w⟩
  rw [h, if_neg (by decide)]; exact hV
theorem vwin_yes {b : Nat} {v : Vw} {s l : Nat} {w w' : World} (h : winE (s : Int) l = 0) (hV : VB w' b (winV v s l)) (ho : Only b w w') : WinP b v (s : Int) l w (.returned (.int .i64 0)) w' := by
  refine ⟨by rw [h], ?_, ho⟩
  rw [h, if_pos rfl, Int.toNat_natCast]; exact hV
set_option maxHeartbeats 2000000 in
set_option maxRecDepth 100000 in
theorem win_any (b : Nat) (v : Vw) (s : Int) (l : Nat) (w : World) (hV : VB w b v) (hs : v.self < 64) (hc : v.cur < 9223372036854775807) : Calls Try.prog 31 #[.pointer (some ⟨b, 0, none⟩), .int .i64 s, .int .u64 (l : Int)] w (WinP b v s l w) := by
  have HS := hid (isslot_any s w)
  cases hsl : slotB s with
  | false =>
    have HR := hid (vwin_no (winE_out l hsl) hV)
    go_enter Try.func31, Try.ntmps31
    go_wp2_with fail
    refine HS.out.mono ?_; rintro e w' ⟨rfl, rfl⟩
    rw [hsl]
    go_wp2
    go_ret
    exact HR.out
  | true =>
    by_cases hl : 4611686018427387904 < l
    · have HR := hid (vwin_no (s := s) (winE_great hl) hV)
      have hlz : (4611686018427387904 : Int) < (l : Int) := by omega
      go_enter Try.func31, Try.ntmps31
      go_wp2_with fail
      refine HS.out.mono ?_; rintro e w' ⟨rfl, rfl⟩
      rw [hsl]
      go_wp2
      go_ret
      exact HR.out
    · have h := of_decide_eq_true hsl
      obtain ⟨k, rfl⟩ := Int.eq_ofNat_of_zero_le h.1
      have hk : k < 16384 := by omega
      have hkz : (k : Int) < 16384 := by omega
      have hlz : ¬ (4611686018427387904 : Int) < (l : Int) := by omega
      have HE := hid (winE_in (l := l) hsl (by omega))
      obtain ⟨m, hm⟩ : ∃ m, m = v.self := ⟨_, rfl⟩
      have hw8 : IntKind.i8.wrap (m : Int) = m := by rw [wrap_i8]; omega
      have c0 := hV.self_
      have c1 := hV.cur_
      have c2 := hV.own_ hk
      have f2 := hV.frozen (1 + k)
      have hz : (m : Int) = ownZ v.self := by unfold ownZ; rw [if_pos hs, hm]
      have HV1 : Hid (VB (w.setCell ⟨b, 1 + k, none⟩ (.int .i8 (m : Int))) b (ownV v k v.self)) := by
        rw [hz]; exact hV.setOwn hk
      have HO1 := hid (Only.setCell (Only.refl b w) (1 + k) (.int .i8 (m : Int)))
      rw [← hm] at c0
      have HM := hid hm
      have HSl := hid hs
      have HCu := hid hc
      clear h hz hm hs hc hl
      go_enter Try.func31, Try.ntmps31
      go_wp2_with fail
      refine HS.out.mono ?_; rintro e w' ⟨rfl, rfl⟩
      rw [hsl]
      go_upto_region 3 with fail
      go_region
      have HV2 := hid (HV1.out.turn (w' := (w'.setCell ⟨b, 1 + k, none⟩ (.int .i8 (m : Int))).drew) rfl)
      have HO2 := hid HO1.out.drew
      generalize (w'.setCell ⟨b, 1 + k, none⟩ (.int .i8 (m : Int))).drew = w2 at HV2 HO2 ⊢
      clear c0 c1 c2 f2 HV1 HO1
      have c1 : w2.cell? ⟨b, 16449, none⟩ = some (.int .u64 (v.cur : Int)) := HV2.out.cur_
      have f1 := HV2.out.frozen 16449
      by_cases hmx : (v.cur : Int) < (l : Int)
      · have HV3 := hid (HV2.out.setCur l)
        have HO3 := hid (Only.setCell HO2.out 16449 (.int .u64 (l : Int)))
        have HX : Hid (max v.cur l = l) := by show _ = _; omega
        go_upto_region 5 with fail
        go_wp2_with fail
        refine (rise_any b _ _ HV3.out HSl.out (by show l < _; omega)).mono ?_; rintro e w4 ⟨rfl, hv, ho⟩
        have HV4 : Hid (VB w4 b (winV v k l)) := by
          show VB w4 b (winV v k l)
          unfold winV
          rw [HX.out]; exact hv
        have HO4 := hid (HO3.out.trans ho)
        clear hv ho
        go_wp2
        go_ret
        exact vwin_yes HE.out HV4.out HO4.out
      · have HV3 := hid (HV2.out.setCur v.cur)
        have HO3 := hid (Only.setCell HO2.out 16449 (.int .u64 (v.cur : Int)))
        have HX : Hid (max v.cur l = v.cur) := by show _ = _; omega
        go_upto_region 5 with fail
        go_wp2_with fail
        refine (rise_any b _ _ HV3.out HSl.out (by have := HCu.out; show v.cur < _; omega)).mono ?_; rintro e w4 ⟨rfl, hv, ho⟩
        have HV4 : Hid (VB w4 b (winV v k l)) := by
          show VB w4 b (winV v k l)
          unfold winV
          rw [HX.out]; exact hv
        have HO4 := hid (HO3.out.trans ho)
        clear hv ho
        go_wp2
        go_ret
        exact vwin_yes HE.out HV4.out HO4.out
def GiveP (b : Nat) (v : Vw) (s n : Int) (w : World) (e : Ending) (w' : World) : Prop :=
  e = .returned (.int .i64 (giveE s n)) ∧ VB w' b (if giveE s n = 0 then ownV v s.toNat n.toNat else v) ∧ Only b w w'
theorem give_no1 {b : Nat} {v : Vw} {s n : Int} {w : World} (h : slotB s = false) (hV : VB w b v) : GiveP b v s n w (.returned (.int .i64 1)) w := by
  have e : giveE s n = 1 := by unfold giveE; rw [h]; simp
  refine ⟨by rw [e], ?_, Only.refl b w⟩
  rw [e, if_neg (by decide)]; exact hV
theorem give_no2 {b : Nat} {v : Vw} {s n : Int} {w : World} (h : slotB s = true) (hn : nodeB n = false) (hV : VB w b v) : GiveP b v s n w (.returned (.int .i64 150)) w := by
  have e : giveE s n = 150 := by unfold giveE; rw [if_pos h, if_neg (of_decide_eq_false hn)]
  refine ⟨by rw [e], ?_, Only.refl b w⟩
  rw [e, if_neg (by decide)]; exact hV
theorem give_yes2 {b : Nat} {v : Vw} {s n : Nat} {w w' : World} (h : slotB (s : Int) = true) (hn : nodeB (n : Int) = true) (hV : VB w' b (ownV v s n)) (ho : Only b w w') : GiveP b v s n w (.returned (.int .i64 0)) w' := by
  have e : giveE (s : Int) (n : Int) = 0 := by unfold giveE; rw [if_pos h, if_pos (of_decide_eq_true hn)]
  refine ⟨by rw [e], ?_, ho⟩
  rw [e, if_pos rfl]; exact hV
set_option maxHeartbeats 2000000 in
set_option maxRecDepth 100000 in
theorem give_any (b : Nat) (v : Vw) (s n : Int) (w : World) (hV : VB w b v) : Calls Try.prog 32 #[.pointer (some ⟨b, 0, none⟩), .int .i64 s, .int .i64 n] w (GiveP b v s n w) := by
  have HS := hid (isslot_any s w)
  have HN := hid (isnode_any n w)
  cases hsl : slotB s with
  | false =>
    have HR := hid (give_no1 (n := n) hsl hV)
    go_enter Try.func32, Try.ntmps32
    go_wp2_with fail
    refine HS.out.mono ?_; rintro e w' ⟨rfl, rfl⟩
    rw [hsl]
    go_wp2
    go_ret
    exact HR.out
  | true =>
    cases hn : nodeB n with
    | false =>
      have HR := hid (give_no2 hsl hn hV)
      go_enter Try.func32, Try.ntmps32
      go_wp2_with fail
      refine HS.out.mono ?_; rintro e w' ⟨rfl, rfl⟩
      rw [hsl]
      go_wp2_with fail
      refine HN.out.mono ?_; rintro e w' ⟨rfl, rfl⟩
      rw [hn]
      go_wp2
      go_ret
      exact HR.out
    | true =>
      have h := of_decide_eq_true hsl
      obtain ⟨k, rfl⟩ := Int.eq_ofNat_of_zero_le h.1
      have h2 := of_decide_eq_true hn
      obtain ⟨m, rfl⟩ := Int.eq_ofNat_of_zero_le h2.1
      have hk : k < 16384 := by omega
      have hm : m < 64 := by omega
      have hkz : (k : Int) < 16384 := by omega
      have hw8 : IntKind.i8.wrap (m : Int) = m := by rw [wrap_i8]; omega
      have c2 := hV.own_ hk
      have f2 := hV.frozen (1 + k)
      have hz : (m : Int) = ownZ m := by unfold ownZ; rw [if_pos hm]
      have HV1 : Hid (VB (w.setCell ⟨b, 1 + k, none⟩ (.int .i8 (m : Int))) b (ownV v k m)) := by
        rw [hz]; exact hV.setOwn hk
      have HO1 := hid (Only.setCell (Only.refl b w) (1 + k) (.int .i8 (m : Int)))
      have HR := hid (fun w' (h : VB w' b (ownV v k m)) ho => give_yes2 (w := w) hsl hn h ho)
      clear h h2 hz
      go_enter Try.func32, Try.ntmps32
      go_wp2_with fail
      refine HS.out.mono ?_; rintro e w' ⟨rfl, rfl⟩
      rw [hsl]
      go_wp2_with fail
      refine HN.out.mono ?_; rintro e w' ⟨rfl, rfl⟩
      rw [hn]
      go_wp2
      go_ret
      exact HR.out _ HV1.out HO1.out

theorem VB.one {w : World} {b : Nat} {v : Vw} (h : VB w b v) : ∃ C : Array Value, w.heap[b]? = some (.cells C 68 (0, 0)) ∧ C.size = 16450 ∧ C.all (·.oneCell') = true ∧ ∀ W c, W.heap[c]? = some (.cells C 68 (0, 0)) → VB W c v := by
  obtain ⟨C, h1, h2, h3, h4, h5, h6⟩ := h
  refine ⟨C, h1, h2, ?_, fun W c hc => ⟨C, hc, h2, h3, h4, h5, h6⟩⟩
  rw [Array.all_eq_true]
  intro i hi
  have key : ∀ x, C[i]? = some x → x.oneCell' = true → (C[i]'hi).oneCell' = true := fun x hx ho => by
    rw [Array.getElem?_eq_getElem hi] at hx
    rw [Option.some.inj hx]; exact ho
  by_cases e0 : i = 0
  · subst e0; exact key _ h3 rfl
  · by_cases e1 : i < 16385
    · exact key _ (by rw [show i = 1 + (i - 1) by omega]; exact h4 (i - 1) (by omega)) rfl
    · by_cases e2 : i < 16449
      · exact key _ (by rw [show i = 16385 + (i - 16385) by omega]; exact h5 (i - 16385) (by omega)) rfl
      · have : i = 16449 := by omega
        subst this; exact key _ h6 rfl
theorem infoV {C : Array Value} (h : C.size = 16450) : (Try.prog.info? 68).map (·.size) = some C.size := by rw [h]; kernel_rfl
set_option maxHeartbeats 2000000 in
set_option maxRecDepth 100000 in
/-- Clone -/
theorem clone_any (b : Nat) (v : Vw) (w : World) (hV : VB w b v) : Calls Try.prog 8 #[.pointer (some ⟨b, 0, none⟩)] w fun e w' => e = .returned (.pointer (some ⟨w.heap.size, 0, none⟩)) ∧ VB w' w.heap.size v ∧ Below w.heap.size w w' := by
  obtain ⟨C, h1, h2, h3, h4⟩ := hV.one
  obtain ⟨Z, z1, _, z2, z3⟩ := zview_any
  have iV := infoV h2
  have HC := hid h1
  have ON := hid h3
  have zC : Z.size = C.size := by rw [z1, h2]
  have HZ := hid (heap_alloc_new w (.cells Z 68))
  have HW := hid (below_alloc w (.cells Z 68))
  have HV4 := hid h4
  clear h1 h2 h3 h4 z1
  go_enter Try.func8, Try.ntmps8
  go_wp2_with (first | (refine wpList_load_row rfl 68 _ rfl b rfl 68 _ (0, 0) _ HC.out Try.underlying68 rfl iV ?_) | (refine wpList_store_row rfl 68 _ _ rfl w.heap.size C rfl rfl 68 _ HZ.out iV zC ON.out ?_))
  go_ret
  exact ⟨rfl, HV4.out _ _ (setRow_heap _ _ _ _ _ _ HZ.out), below_setRow HW.out (Nat.le_refl _) _⟩

end Go.Proofs.Ytdicjnkbmlamgab
