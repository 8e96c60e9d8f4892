/- The walk of the law ReplyCuts. -/
import Derived.Test.YtngkbacnajgmcaaDoorAlive
import Derived.Test.YtngkbacnajgmcaaDoorCosts
namespace Go.Proofs.YtngkbacnajgmcaaDoor
open Go.RowKit

set_option maxHeartbeats 4000000 in
set_option maxRecDepth 100000 in
theorem replyCuts_walk (v1 : Value) (r : Rep) (d : Nat) (n : Int) (w : World) (hE : Env w) (h : Rp All w d v1 r) (_hn0 : -9223372036854775808 ≤ n) (_hn1 : n ≤ 9223372036854775807) :
    Calls Tryd.prog 7 #[v1, .int .i64 n] w fun e w' => e = .returned (.bool true) ∧ Below w.heap.size w w' := by
  have HS := hid fun (o : Obj) => small_any v1 r d (w.alloc o) (h.below (below_alloc w o) (Nat.le_refl _))
  have HEnv := hid fun (W : World) (hb : Below w.heap.size w W) => hE.below hb hE.room
  have HAl := hid fun (W : World) (hb : Below w.heap.size w W) => alive_any W (HEnv.out W hb)
  have HEn := hid fun (W : World) (hb : Below w.heap.size w W) hc => encode_any v1 r d W (HEnv.out W hb) (h.below hb (Nat.le_refl _)) hc
  have HF := hid (h.fits 4)
  obtain ⟨d, p, c, rfl, rfl, -, -⟩ := h.open
  have HZ := hid fun (o : Obj) => heap_alloc_new w o
  clear hE h
  go_enter Tryd.func7, Tryd.ntmps7
  go_wp2_with fail
  refine (HS.out _).mono ?_; rintro e w3 ⟨b, rfl, hh⟩
  have HB3 := hid ((below_alloc w _).trans (hh.out.2.mono (by simp)))
  have HR3 := hid ((hh.out.2.block _ (by simp)).trans (HZ.out _))
  have HSm := hid hh.out.1
  clear hh HS
  cases b
  · go_wp2_with fail
    refine (HAl.out _ HB3.out).mono ?_; rintro e w4 ⟨rfl, hb⟩
    go_wp2_with fail
    go_ret
    exact ⟨rfl, HB3.out.trans (hb.out.mono HB3.out.size)⟩
  · have hcost := small_cost (HSm.out rfl)
    have HE3 := hid (HEn.out _ HB3.out (by omega))
    obtain ⟨⟨e0, e1, e2, e3⟩, -⟩ := row_facts HR3.out
    cases hx : enc 4 r with
    | none =>
      rw [encOut_none hx] at HE3
      clear hx HSm hcost
      go_wp2_with fail
      refine HE3.out.mono ?_; rintro e w4 ⟨rfl, hb4⟩
      have HB4 := hid (HB3.out.trans (hb4.out.mono HB3.out.size))
      clear hb4 HE3
      go_wp2_with fail
      refine (HAl.out _ HB4.out).mono ?_; rintro e w5 ⟨rfl, hb⟩
      go_wp2_with fail
      go_ret
      exact ⟨rfl, HB4.out.trans (hb.out.mono HB4.out.size)⟩
    | some x =>
      rw [encOut_some hx] at HE3
      have HXL := hid (Nat.le_trans (enc_len HF.out hx) hcost)
      have HRd := hid fun m hm => rd_part (m := m) HF.out hx hm
      clear hx HSm hcost
      by_cases hneg : n < 0
      · go_wp2_with fail
        refine HE3.out.mono ?_; rintro e w4 ⟨rfl, hb4⟩
        have HB4 := hid (HB3.out.trans (hb4.out.mono HB3.out.size))
        clear hb4 HE3
        go_wp2_with fail
        refine (HAl.out _ HB4.out).mono ?_; rintro e w5 ⟨rfl, hb⟩
        go_wp2_with fail
        go_ret
        exact ⟨rfl, HB4.out.trans (hb.out.mono HB4.out.size)⟩
      · by_cases hge : (x.length : Int) ≤ n
        · go_wp2_with fail
          refine HE3.out.mono ?_; rintro e w4 ⟨rfl, hb4⟩
          have HB4 := hid (HB3.out.trans (hb4.out.mono HB3.out.size))
          clear hb4 HE3
          go_wp2_with fail
          refine (HAl.out _ HB4.out).mono ?_; rintro e w5 ⟨rfl, hb⟩
          go_wp2_with fail
          go_ret
          exact ⟨rfl, HB4.out.trans (hb.out.mono HB4.out.size)⟩
        · obtain ⟨m, rfl⟩ := Int.eq_ofNat_of_zero_le (show 0 ≤ n by omega)
          have hml : m < x.length := by omega
          have HR := hid (HRd.out m hml)
          have hmle : (m : Int) ≤ (x.length : Int) := by omega
          have hex : (⟨x.toArray⟩ : ByteArray).extract 0 m = ⟨(x.take m).toArray⟩ := ex_to x m
          clear HRd
          go_wp2_with fail
          refine HE3.out.mono ?_; rintro e w4 ⟨rfl, hb4⟩
          have HB4 := hid (HB3.out.trans (hb4.out.mono HB3.out.size))
          have HD := hid (decode_any (x.take m) w4 (HEnv.out _ HB4.out) (by have := HXL.out; simp; omega))
          rw [HR.out] at HD
          clear hb4 HE3
          go_wp2_with fail
          refine HD.out.mono ?_; rintro e w5 ⟨a0, a1, a2, p5, m5, c5, n5, x5, rfl, hh⟩
          obtain ⟨rfl, rfl⟩ := hh.out.1
          have HB5 := hid (HB4.out.trans (hh.out.2.mono HB4.out.size))
          clear hh HD
          go_wp2_with fail
          refine (HAl.out _ (HB5.out.alloc HB5.out.size _)).mono ?_; rintro e w6 ⟨rfl, hb6⟩
          have HB6 := hid ((HB5.out.alloc HB5.out.size _).trans (hb6.out.mono (by have := HB5.out.size; simp; omega)))
          clear hb6
          go_wp2_with fail
          go_ret
          exact ⟨rfl, HB6.out⟩

end Go.Proofs.YtngkbacnajgmcaaDoor
