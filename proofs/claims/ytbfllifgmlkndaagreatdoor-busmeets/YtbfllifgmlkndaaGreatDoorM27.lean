/- VpA. -/
import Derived.Deep.DeepCutAuto
import Derived.Test.YtbfllifgmlkndaaGreatDoorM21
import Derived.Test.YtbfllifgmlkndaaGreatDoorM23
import Derived.Test.YtbfllifgmlkndaaGreatDoorM10
namespace Go.Proofs.YtbfllifgmlkndaaGreatDoor
open Go.RowKit
open Slot

theorem VB.only {w w' : World} {c b : Nat} {v : Vw} (h : VB w b v) (hb : Only c w w') (hn : b ≠ c) : VB w' b v := h.turn (hb.block b h.lt hn)
/-- of whom a packet tells -/
def clI (p : Pk) : Int := if p.kind = 3 then p.of_ else p.frm
set_option maxHeartbeats 1000000 in
theorem claimant_any (p : Pk) (w : World) : Calls Tryz.prog 69 #[.agg (pkCells p)] w fun e w' => e = .returned (.int .i64 (clI p)) ∧ Below w.heap.size w w' := by
  have HP := hid (pbox_new w p)
  have HW := hid (below_alloc w (.cells (pkCells p) 53))
  obtain ⟨p0, p1, p2, p3, p4⟩ := HP.out.cells
  have HC : Hid (clI p = if p.kind = 3 then p.of_ else p.frm) := rfl
  generalize clI p = R at *
  generalize p.kind = K at *
  generalize p.of_ = O at *
  generalize p.frm = F at *
  generalize pkCells p = PC at *
  by_cases hk : K = 3
  · subst hk
    have HR : Hid (R = O) := by show _ = _; rw [HC.out, if_pos rfl]
    go_enter Tryz.func69, Tryz.ntmps69
    go_wp2
    go_ret
    exact ⟨by rw [HR.out]; rfl, HW.out⟩
  · have hk2 : (K == 3) = false := beq_eq_false_iff_ne.2 hk
    have HR : Hid (R = F) := by show _ = _; rw [HC.out, if_neg hk]
    go_enter Tryz.func69, Tryz.ntmps69
    go_wp2
    go_ret
    exact ⟨by rw [HR.out]; rfl, HW.out⟩
set_option maxHeartbeats 2000000 in
/-- rise -/
theorem rise_any (b : Nat) (v : Vw) (w : World) (hV : VB w b v) (hs : v.self < 64) (hc : v.cur < 9223372036854775808) : Calls Tryz.prog 71 #[.pointer (some ⟨b, 0, none⟩)] w fun e w' => e = .returned (.tuple #[]) ∧ VB w' b (raiseV v) ∧ Only b w w' := by
  have c0 := hV.self_
  have c1 := hV.cur_
  have f1 := hV.frozen 16449
  obtain ⟨M, hM⟩ : ∃ M, M = v.cur + 1 := ⟨_, rfl⟩
  have hM1 : (v.cur : Int) + 1 = (M : Int) := by omega
  have hM2 : IntKind.u64.wrap (M : Int) = M := by rw [IntKind.wrap_u64]; omega
  have HV1 := hid (hV.setCur M)
  have HO1 := hid (Only.setCell (Only.refl b w) 16449 (.int .u64 (M : Int)))
  have HE : Hid (raiseV v = { { v with cur := M } with ep := fun m => if m = v.self then M else v.ep m }) := by show _ = _; rw [hM]; rfl
  have HS := hid hs
  have hsz : (v.self : Int) < 64 := by omega
  clear hM hs hc
  go_enter Tryz.func71, Tryz.ntmps71
  go_upto_region 1 with fail
  generalize w.setCell ⟨b, 16449, none⟩ (.int .u64 (M : Int)) = w1 at *
  clear c0 c1 f1
  have c0 := HV1.out.self_
  have c1 := HV1.out.cur_
  have c2 := HV1.out.ep_ HS.out
  have f2 := HV1.out.frozen (16385 + v.self)
  have HV2 := hid (HV1.out.setEp HS.out M)
  have HO2 := hid (Only.setCell HO1.out (16385 + v.self) (.int .u64 (M : Int)))
  dsimp only at c0 c1 c2
  go_region
  go_wp2
  go_end0
  exact ⟨rfl, by rw [HE.out]; exact HV2.out.turn rfl, HO2.out.drew⟩

end Go.Proofs.YtbfllifgmlkndaaGreatDoor
