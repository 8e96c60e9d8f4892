/- The walk of the law ReplyWrites. -/
import Derived.Test.YtngkbacnajgmcaaDoorAlive
import Derived.Test.YtngkbacnajgmcaaDoorCosts
import Derived.Test.YtngkbacnajgmcaaDoorRefEncM
namespace Go.Proofs.YtngkbacnajgmcaaDoor
open Go.RowKit

set_option maxHeartbeats 4000000 in
set_option maxRecDepth 100000 in
theorem replyWrites_walk (v1 : Value) (r : Rep) (d : Nat) (w : World) (hE : Env w) (h : Rp All w d v1 r) :
    Calls Tryd.prog 3 #[v1] w fun e w' => e = .returned (.bool true) ∧ Below w.heap.size w w' := by
  have HS := hid fun (o : Obj) => small_any v1 r d (w.alloc o) (h.below (below_alloc w o) (Nat.le_refl _))
  have HEnv := hid fun (W : World) (hb : Below w.heap.size w W) => hE.below hb hE.room
  have HAl := hid fun (W : World) (hb : Below w.heap.size w W) => alive_any W (HEnv.out W hb)
  have HEn := hid fun (W : World) (hb : Below w.heap.size w W) hc => encode_any v1 r d W (HEnv.out W hb) (h.below hb (Nat.le_refl _)) hc
  have HRe := hid fun (W : World) (hb : Below w.heap.size w W) hc => rencode_any v1 r d W (h.below hb (Nat.le_refl _)) hc
  obtain ⟨d, p, c, rfl, rfl, -, -⟩ := h.open
  have HZ := hid fun (o : Obj) => heap_alloc_new w o
  clear hE h
  go_enter Tryd.func3, Tryd.ntmps3
  go_wp2_with fail
  refine (HS.out _).mono ?_; rintro e w3 ⟨b, rfl, hh⟩
  have HB3 := hid ((below_alloc w _).trans (hh.out.2.mono (by simp)))
  have HR3 := hid ((hh.out.2.block _ (by simp)).trans (HZ.out _))
  have HSm := hid hh.out.1
  clear hh HS
  cases b
  · go_wp2_with fail
    refine (HAl.out _ HB3.out).mono ?_; rintro e w4 ⟨rfl, hb⟩
    go_wp2_with fail
    go_ret
    exact ⟨rfl, HB3.out.trans (hb.out.mono HB3.out.size)⟩
  · have hcost := small_cost (HSm.out (by simp))
    have HE3 := hid (HEn.out _ HB3.out (by omega))
    have HRe2 := hid fun (W : World) hb => HRe.out W hb (by omega)
    obtain ⟨⟨e0, e1, e2, e3⟩, -⟩ := row_facts HR3.out
    clear hcost HSm
    cases hx : enc 4 r with
    | none =>
      rw [encOut_none hx] at HE3 HRe2
      clear hx
      go_wp2_with fail
      refine HE3.out.mono ?_; rintro e w4 ⟨rfl, hb4⟩
      have HB4 := hid (HB3.out.trans (hb4.out.mono HB3.out.size))
      have HR4 := hid (row_kept hb4.out HR3.out)
      clear hb4 HE3 e0 e1 e2 e3
      obtain ⟨⟨e0, e1, e2, e3⟩, -⟩ := row_facts HR4.out
      go_wp2_with fail
      refine (HRe2.out _ HB4.out).mono ?_; rintro e w5 ⟨rfl, hb5⟩
      have HB5 := hid (HB4.out.trans (hb5.out.mono HB4.out.size))
      clear hb5
      go_wp2_with fail
      refine (HAl.out _ HB5.out).mono ?_; rintro e w6 ⟨rfl, hb6⟩
      have HB6 := hid (HB5.out.trans (hb6.out.mono HB5.out.size))
      clear hb6
      go_wp2_with fail
      go_ret
      exact ⟨rfl, HB6.out⟩
    | some x =>
      rw [encOut_some hx] at HE3 HRe2
      clear hx
      go_wp2_with fail
      refine HE3.out.mono ?_; rintro e w4 ⟨rfl, hb4⟩
      have HB4 := hid (HB3.out.trans (hb4.out.mono HB3.out.size))
      have HR4 := hid (row_kept hb4.out HR3.out)
      clear hb4 HE3 e0 e1 e2 e3
      obtain ⟨⟨e0, e1, e2, e3⟩, -⟩ := row_facts HR4.out
      go_wp2_with fail
      refine (HRe2.out _ HB4.out).mono ?_; rintro e w5 ⟨rfl, hb5⟩
      have HB5 := hid (HB4.out.trans (hb5.out.mono HB4.out.size))
      clear hb5
      go_wp2_with fail
      refine (HAl.out _ HB5.out).mono ?_; rintro e w6 ⟨rfl, hb6⟩
      have HB6 := hid (HB5.out.trans (hb6.out.mono HB5.out.size))
      clear hb6
      go_wp2_with fail
      go_ret
      exact ⟨rfl, HB6.out⟩

end Go.Proofs.YtngkbacnajgmcaaDoor
