/- The walk of the law ReplySame. -/
import Derived.Test.YtngkbacnajgmcaaDoorAlive
import Derived.Test.YtngkbacnajgmcaaDoorSmall
import Derived.Test.YtngkbacnajgmcaaDoorYes
import Derived.Deep.RegionWith
namespace Go.Proofs.YtngkbacnajgmcaaDoor
open Go.RowKit

set_option maxHeartbeats 4000000 in
set_option maxRecDepth 100000 in
theorem replySame_walk (v1 : Value) (r1 : Rep) (d1 : Nat) (v2 : Value) (r2 : Rep) (d2 : Nat) (w : World) (hE : Env w) (h1 : Rp All w d1 v1 r1) (h2 : Rp All w d2 v2 r2) :
    Calls Tryd.prog 8 #[v1, v2] w fun e w' => e = .returned (.bool true) ∧ Below w.heap.size w w' := by
  have HS1 := hid fun (W : World) (hb : Below w.heap.size w W) => small_any v1 r1 d1 W (h1.below hb (Nat.le_refl _))
  have HS2 := hid fun (W : World) (hb : Below w.heap.size w W) => small_any v2 r2 d2 W (h2.below hb (Nat.le_refl _))
  have HAl := hid fun (W : World) (hb : Below w.heap.size w W) => alive_any W (hE.below hb hE.room)
  have C1 := hid fun (W : World) (hb : Below w.heap.size w W) dd os => Calls.regrown_of ((alive_any (Sort.grow (redrawn W dd) os) (hE.below (hb.trans ((below_regrown W dd os).mono hb.size)) hE.room)).mono fun _ _ h => ⟨h.1, h.2.out⟩)
  have P1 := hid fun (W : World) (hb : Below w.heap.size w W) dd os => (h1.below hb (Nat.le_refl _)).below (below_regrown W dd os) (Nat.le_refl _)
  have P2 := hid fun (W : World) (hb : Below w.heap.size w W) dd os => (h2.below hb (Nat.le_refl _)).below (below_regrown W dd os) (Nat.le_refl _)
  obtain ⟨d1, p1, c1, rfl, rfl, -, -⟩ := h1.open
  obtain ⟨d2, p2, c2, rfl, rfl, -, -⟩ := h2.open
  have HZ0 := hid fun (o o' : Obj) => heap_alloc2_old w o o'
  have HZ1 := hid fun (o o' : Obj) => heap_alloc2_new w o o'
  clear hE h1 h2
  go_enter Tryd.func8, Tryd.ntmps8
  go_wp2_with fail
  refine (HS1.out _ (below2 w _ _)).mono ?_; rintro e w3 ⟨b, rfl, hh⟩
  have HB3 := hid ((below2 w _ _).trans (hh.out.2.mono (by simp; omega)))
  have HR0 := hid ((hh.out.2.block _ (by simp; omega)).trans (HZ0.out _ _))
  have HR1 := hid ((hh.out.2.block _ (by simp)).trans (HZ1.out _ _))
  clear hh HS1
  cases b
  · go_wp2_with fail
    refine (HAl.out _ HB3.out).mono ?_; rintro e w4 ⟨rfl, hb⟩
    go_wp2_with fail
    go_ret
    exact ⟨rfl, HB3.out.trans (hb.out.mono HB3.out.size)⟩
  · obtain ⟨⟨e0, e1, e2, e3⟩, -⟩ := row_facts HR1.out
    go_wp2_with fail
    refine (HS2.out _ HB3.out).mono ?_; rintro e w4 ⟨b, rfl, hh⟩
    have HB4 := hid (HB3.out.trans (hh.out.2.mono HB3.out.size))
    have HR0b := hid ((hh.out.2.block _ (Array.getElem?_eq_some_iff.1 HR0.out).1).trans HR0.out)
    have HR1b := hid ((hh.out.2.block _ (Array.getElem?_eq_some_iff.1 HR1.out).1).trans HR1.out)
    clear hh HS2 e0 e1 e2 e3 HR0 HR1
    cases b
    · go_wp2_with fail
      refine (HAl.out _ HB4.out).mono ?_; rintro e w5 ⟨rfl, hb⟩
      go_wp2_with fail
      go_ret
      exact ⟨rfl, HB4.out.trans (hb.out.mono HB4.out.size)⟩
    · obtain ⟨⟨a0, a1, a2, a3⟩, -⟩ := row_facts HR0b.out
      obtain ⟨⟨b0, b1, b2, b3⟩, -⟩ := row_facts HR1b.out
      have g0 := cell_regrown a0
      have g1 := cell_regrown a1
      have g2 := cell_regrown a2
      have g3 := cell_regrown a3
      have k0 := cell_regrown b0
      have k1 := cell_regrown b1
      have k2 := cell_regrown b2
      have k3 := cell_regrown b3
      have D1 := hid fun dd os => C1.out _ HB4.out dd os
      have D4 := hid fun dd os => Calls.regrown_of (same_yes (P1.out _ HB4.out dd os) (P1.out _ HB4.out dd os))
      by_cases hr : r1 = r2
      · subst hr
        have D2 := hid fun dd os => Calls.regrown_of (same_yes (P1.out _ HB4.out dd os) (P2.out _ HB4.out dd os))
        have D3 := hid fun dd os => Calls.regrown_of (rsame_yes (P1.out _ HB4.out dd os) (P2.out _ HB4.out dd os))
        go_wp2_with fail
        refine wp_region_quiet_below (by kernel_rfl) (by kernel_rfl) ?_
        repeat (quiet_step (first | (go_at_call 10; exact D1.out _ _) | (go_at_call_of 14 p2; exact D2.out _ _) | (go_at_call 16; exact D3.out _ _) | (go_at_call 14; exact D4.out _ _)))
        refine wpQuiet_nil ?_
        intro _ hw'
        obtain ⟨⟨dq, osq⟩, hw''⟩ := hw'
        subst hw''
        go_wp2_with fail
        go_ret
        exact ⟨rfl, HB4.out.trans ((below_regrown w4 dq osq).mono HB4.out.size)⟩
      · have D2 := hid fun dd os => Calls.regrown_of (same_no hr (P1.out _ HB4.out dd os) (P2.out _ HB4.out dd os))
        have D3 := hid fun dd os => Calls.regrown_of (rsame_no hr (P1.out _ HB4.out dd os) (P2.out _ HB4.out dd os))
        clear hr
        go_wp2_with fail
        refine wp_region_quiet_below (by kernel_rfl) (by kernel_rfl) ?_
        repeat (quiet_step (first | (go_at_call 10; exact D1.out _ _) | (go_at_call_of 14 p2; exact D2.out _ _) | (go_at_call 16; exact D3.out _ _) | (go_at_call 14; exact D4.out _ _)))
        refine wpQuiet_nil ?_
        intro _ hw'
        obtain ⟨⟨dq, osq⟩, hw''⟩ := hw'
        subst hw''
        go_wp2_with fail
        go_ret
        exact ⟨rfl, HB4.out.trans ((below_regrown w4 dq osq).mono HB4.out.size)⟩

end Go.Proofs.YtngkbacnajgmcaaDoor
