/- The walk of the law ReplyBack. -/
import Derived.Test.YtngkbacnajgmcaaDoorAlive
import Derived.Test.YtngkbacnajgmcaaDoorCosts
import Derived.Test.YtngkbacnajgmcaaDoorYes
namespace Go.Proofs.YtngkbacnajgmcaaDoor
open Go.RowKit

set_option maxHeartbeats 4000000 in
set_option maxRecDepth 100000 in
theorem replyBack_walk (v1 : Value) (r : Rep) (d : Nat) (more : List UInt8) (w : World) (hE : Env w) (h : Rp All w d v1 r) (hm : more.length ≤ 140737488351232) :
    Calls Tryd.prog 6 #[v1, .string ⟨more.toArray⟩] w fun e w' => e = .returned (.bool true) ∧ Below w.heap.size w w' := by
  have HS := hid fun (o : Obj) => small_any v1 r d (w.alloc o) (h.below (below_alloc w o) (Nat.le_refl _))
  have HEnv := hid fun (W : World) (hb : Below w.heap.size w W) => hE.below hb hE.room
  have HAl := hid fun (W : World) (hb : Below w.heap.size w W) => alive_any W (HEnv.out W hb)
  have HEn := hid fun (W : World) (hb : Below w.heap.size w W) hc => encode_any v1 r d W (HEnv.out W hb) (h.below hb (Nat.le_refl _)) hc
  have HP := hid fun (W : World) (hb : Below w.heap.size w W) => h.below hb (Nat.le_refl _)
  have HF := hid (h.fits 4)
  obtain ⟨d, p, c, rfl, rfl, -, -⟩ := h.open
  have HZ := hid fun (o : Obj) => heap_alloc_new w o
  clear hE h
  go_enter Tryd.func6, Tryd.ntmps6
  go_wp2_with fail
  refine (HS.out _).mono ?_; rintro e w3 ⟨b, rfl, hh⟩
  have HB3 := hid ((below_alloc w _).trans (hh.out.2.mono (by simp)))
  have HR3 := hid ((hh.out.2.block _ (by simp)).trans (HZ.out _))
  have HSm := hid hh.out.1
  clear hh HS
  cases b
  · go_wp2_with fail
    refine (HAl.out _ HB3.out).mono ?_; rintro e w4 ⟨rfl, hb⟩
    go_wp2_with fail
    go_ret
    exact ⟨rfl, HB3.out.trans (hb.out.mono HB3.out.size)⟩
  · have hcost := small_cost (HSm.out rfl)
    have HE3 := hid (HEn.out _ HB3.out (by omega))
    obtain ⟨⟨e0, e1, e2, e3⟩, -⟩ := row_facts HR3.out
    cases hx : enc 4 r with
    | none =>
      rw [encOut_none hx] at HE3
      clear hx HSm hcost
      have hcat : ((⟨#[]⟩ : ByteArray) ++ ⟨more.toArray⟩) = ⟨more.toArray⟩ := ba_append [] more
      go_wp2_with fail
      refine HE3.out.mono ?_; rintro e w4 ⟨rfl, hb4⟩
      have HB4 := hid (HB3.out.trans (hb4.out.mono HB3.out.size))
      have HD := hid (decode_any more w4 (HEnv.out _ HB4.out) (by omega))
      clear hb4 HE3
      go_wp2_with fail
      refine HD.out.mono ?_; rintro e w5 ⟨a0, a1, a2, p5, m5, c5, n5, x5, rfl, hh⟩
      have HB5 := hid (HB4.out.trans (hh.out.2.mono HB4.out.size))
      clear hh HD
      go_wp2_with fail
      refine (HAl.out _ (HB5.out.alloc HB5.out.size _)).mono ?_; rintro e w6 ⟨rfl, hb6⟩
      have HB6 := hid ((HB5.out.alloc HB5.out.size _).trans (hb6.out.mono (by have := HB5.out.size; simp; omega)))
      clear hb6
      go_wp2_with fail
      go_ret
      exact ⟨rfl, HB6.out⟩
    | some x =>
      rw [encOut_some hx] at HE3
      have hxl := enc_len HF.out hx
      have HRd := hid (rd_back more HF.out hx)
      have hcat : (⟨x.toArray⟩ ++ ⟨more.toArray⟩ : ByteArray) = ⟨(x ++ more).toArray⟩ := ba_append x more
      clear hx HSm
      go_wp2_with fail
      refine HE3.out.mono ?_; rintro e w4 ⟨rfl, hb4⟩
      have HB4 := hid (HB3.out.trans (hb4.out.mono HB3.out.size))
      have HD := hid (decode_any (x ++ more) w4 (HEnv.out _ HB4.out) (by simp; omega))
      rw [HRd.out] at HD
      have HR4 := hid ((hb4.out.block _ (Array.getElem?_eq_some_iff.1 HR3.out).1).trans HR3.out)
      clear hb4 HE3 e0 e1 e2 e3
      go_wp2_with fail
      refine HD.out.mono ?_; rintro e w5 ⟨a0, a1, a2, p5, m5, c5, n5, x5, rfl, hh⟩
      obtain ⟨rfl, hn, hrp⟩ := hh.out.1
      have hn5 : n5 = (x.length : Int) := by rw [hn]; simp
      clear hn
      subst hn5
      have HB5 := hid (HB4.out.trans (hh.out.2.mono HB4.out.size))
      have HR5 := hid ((hh.out.2.block _ (Array.getElem?_eq_some_iff.1 HR4.out).1).trans HR4.out)
      have HQ := hid fun (W : World) (hb : Below w5.heap.size w5 W) => (hrp.all (Nat.le_refl _)).below hb (Nat.le_refl _)
      have HZ5 := hid fun (o : Obj) => heap_alloc_new w5 o
      have hlt5 : w.heap.size < w5.heap.size := (Array.getElem?_eq_some_iff.1 HR5.out).1
      clear hh HD hrp hxl hcost hm hcat
      go_wp2_with fail
      refine (HAl.out _ (HB5.out.alloc HB5.out.size _)).mono ?_; rintro e w6 ⟨rfl, hb6⟩
      have HB56 := hid ((below_alloc w5 _).trans (hb6.out.mono (by simp)))
      have HR6 := hid ((HB56.out.block _ hlt5).trans HR5.out)
      have HN6 := hid ((hb6.out.block _ (by simp)).trans (HZ5.out _))
      clear hb6
      obtain ⟨⟨e0, e1, e2, e3⟩, -⟩ := row_facts HR6.out
      obtain ⟨⟨i0, i1, i2, i3⟩, -⟩ := row_facts HN6.out
      have HB6 := hid (HB5.out.trans (HB56.out.mono HB5.out.size))
      have HY := hid (rsame_yes (HQ.out w6 HB56.out) (HP.out w6 HB6.out))
      go_wp2_with fail
      refine HY.out.mono ?_; rintro e w7 ⟨rfl, hb7⟩
      have HB7 := hid (HB6.out.trans (hb7.mono HB6.out.size))
      clear hb7
      go_wp2_with fail
      go_ret
      exact ⟨rfl, HB7.out⟩

end Go.Proofs.YtngkbacnajgmcaaDoor
