/- The walk of the law ReplyJoins. -/
import Derived.Test.YtngkbacnajgmcabDoorAlive
import Derived.Test.YtngkbacnajgmcabDoorCosts
import Derived.Test.YtngkbacnajgmcabDoorYes
namespace Go.Proofs.YtngkbacnajgmcabDoor
open Go.RowKit

theorem row_keep {w w' : World} {b : Nat} {o : Obj} (hb : Below w.heap.size w w') (h : w.heap[b]? = some o) : w'.heap[b]? = some o := (hb.block _ (Array.getElem?_eq_some_iff.1 h).1).trans h
set_option maxHeartbeats 4000000 in
set_option maxRecDepth 100000 in
theorem replyJoins_walk (v1 : Value) (r1 : Rep) (d1 : Nat) (v2 : Value) (r2 : Rep) (d2 : Nat) (w : World) (hE : Env w) (h1 : Rp All w d1 v1 r1) (h2 : Rp All w d2 v2 r2) :
    Calls Tryd.prog 4 #[v1, v2] w fun e w' => e = .returned (.bool true) ∧ Below w.heap.size w w' := by
  have HS1 := hid fun (W : World) (hb : Below w.heap.size w W) => small_any v1 r1 d1 W (h1.below hb (Nat.le_refl _))
  have HS2 := hid fun (W : World) (hb : Below w.heap.size w W) => small_any v2 r2 d2 W (h2.below hb (Nat.le_refl _))
  have HEnv := hid fun (W : World) (hb : Below w.heap.size w W) => hE.below hb hE.room
  have HAl := hid fun (W : World) (hb : Below w.heap.size w W) => alive_any W (HEnv.out W hb)
  have HE1 := hid fun (W : World) (hb : Below w.heap.size w W) hc => encode_any v1 r1 d1 W (HEnv.out W hb) (h1.below hb (Nat.le_refl _)) hc
  have HE2 := hid fun (W : World) (hb : Below w.heap.size w W) hc => encode_any v2 r2 d2 W (HEnv.out W hb) (h2.below hb (Nat.le_refl _)) hc
  have P1 := hid fun (W : World) (hb : Below w.heap.size w W) => h1.below hb (Nat.le_refl _)
  have P2 := hid fun (W : World) (hb : Below w.heap.size w W) => h2.below hb (Nat.le_refl _)
  have F1 := hid (h1.fits 4)
  have F2 := hid (h2.fits 4)
  obtain ⟨d1, p1, c1, rfl, rfl, -, -⟩ := h1.open
  obtain ⟨d2, p2, c2, rfl, rfl, -, -⟩ := h2.open
  have HZ0 := hid fun (o o' : Obj) => heap_alloc2_old w o o'
  have HZ1 := hid fun (o o' : Obj) => heap_alloc2_new w o o'
  clear hE h1 h2
  go_enter Tryd.func4, Tryd.ntmps4
  go_wp2_with fail
  refine (HS1.out _ (below2 w _ _)).mono ?_; rintro e w1 ⟨b, rfl, hh⟩
  have B1 := hid ((below2 w _ _).trans (hh.out.2.mono (by simp; omega)))
  have A1 := hid (row_keep hh.out.2 (HZ0.out _ _))
  have C1 := hid (row_keep hh.out.2 (HZ1.out _ _))
  have HSm1 := hid hh.out.1
  clear hh HS1
  cases b
  · go_wp2_with fail
    refine (HAl.out _ B1.out).mono ?_; rintro e w4 ⟨rfl, hb⟩
    go_wp2_with fail
    go_ret
    exact ⟨rfl, B1.out.trans (hb.out.mono B1.out.size)⟩
  obtain ⟨⟨e0, e1, e2, e3⟩, -⟩ := row_facts C1.out
  go_wp2_with fail
  refine (HS2.out _ B1.out).mono ?_; rintro e w2 ⟨b, rfl, hh⟩
  have B2 := hid (B1.out.trans (hh.out.2.mono B1.out.size))
  have A2 := hid (row_keep hh.out.2 A1.out)
  have C2 := hid (row_keep hh.out.2 C1.out)
  have HSm2 := hid hh.out.1
  clear hh HS2 e0 e1 e2 e3 A1 C1
  cases b
  · go_wp2_with fail
    refine (HAl.out _ B2.out).mono ?_; rintro e w4 ⟨rfl, hb⟩
    go_wp2_with fail
    go_ret
    exact ⟨rfl, B2.out.trans (hb.out.mono B2.out.size)⟩
  have K1 := hid (small_cost (HSm1.out (by simp)))
  have K2 := hid (small_cost (HSm2.out (by simp)))
  have HN1 := hid (HE1.out _ B2.out (Nat.le_trans K1.out (by decide)))
  obtain ⟨⟨e0, e1, e2, e3⟩, -⟩ := row_facts A2.out
  clear HSm1 HSm2
  cases hx : enc 4 r1 with
  | none =>
    rw [encOut_none hx] at HN1
    clear hx
    go_wp2_with fail
    refine HN1.out.mono ?_; rintro e w3 ⟨rfl, hb3⟩
    have B3 := hid (B2.out.trans (hb3.out.mono B2.out.size))
    have C3 := hid (row_keep hb3.out C2.out)
    have HN2 := hid (HE2.out _ B3.out (Nat.le_trans K2.out (by decide)))
    clear hb3 HN1 e0 e1 e2 e3
    obtain ⟨⟨e0, e1, e2, e3⟩, -⟩ := row_facts C3.out
    cases hy : enc 4 r2 with
    | none =>
      rw [encOut_none hy] at HN2
      clear hy
      go_wp2_with fail
      refine HN2.out.mono ?_; rintro e w4 ⟨rfl, hb4⟩
      have B4 := hid (B3.out.trans (hb4.out.mono B3.out.size))
      clear hb4 HN2
      go_wp2_with fail
      refine (HAl.out _ B4.out).mono ?_; rintro e w5 ⟨rfl, hb⟩
      go_wp2_with fail
      go_ret
      exact ⟨rfl, B4.out.trans (hb.out.mono B4.out.size)⟩
    | some y =>
      rw [encOut_some hy] at HN2
      clear hy
      go_wp2_with fail
      refine HN2.out.mono ?_; rintro e w4 ⟨rfl, hb4⟩
      have B4 := hid (B3.out.trans (hb4.out.mono B3.out.size))
      clear hb4 HN2
      go_wp2_with fail
      refine (HAl.out _ B4.out).mono ?_; rintro e w5 ⟨rfl, hb⟩
      go_wp2_with fail
      go_ret
      exact ⟨rfl, B4.out.trans (hb.out.mono B4.out.size)⟩
  | some x =>
    rw [encOut_some hx] at HN1
    have HX := hid hx
    clear hx
    go_wp2_with fail
    refine HN1.out.mono ?_; rintro e w3 ⟨rfl, hb3⟩
    have B3 := hid (B2.out.trans (hb3.out.mono B2.out.size))
    have A3 := hid (row_keep hb3.out A2.out)
    have C3 := hid (row_keep hb3.out C2.out)
    have HN2 := hid (HE2.out _ B3.out (Nat.le_trans K2.out (by decide)))
    clear hb3 HN1 e0 e1 e2 e3
    obtain ⟨⟨e0, e1, e2, e3⟩, -⟩ := row_facts C3.out
    cases hy : enc 4 r2 with
    | none =>
      rw [encOut_none hy] at HN2
      clear hy
      go_wp2_with fail
      refine HN2.out.mono ?_; rintro e w4 ⟨rfl, hb4⟩
      have B4 := hid (B3.out.trans (hb4.out.mono B3.out.size))
      clear hb4 HN2
      go_wp2_with fail
      refine (HAl.out _ B4.out).mono ?_; rintro e w5 ⟨rfl, hb⟩
      go_wp2_with fail
      go_ret
      exact ⟨rfl, B4.out.trans (hb.out.mono B4.out.size)⟩
    | some y =>
      rw [encOut_some hy] at HN2
      have LX := hid (Nat.le_trans (enc_len F1.out HX.out) K1.out)
      have LY := hid (Nat.le_trans (enc_len F2.out hy) K2.out)
      have D1 := hid (rd_back y F1.out HX.out)
      have D2 : Hid (rd 4 y = .got r2 []) := by
        have := rd_back [] F2.out hy
        rwa [List.append_nil] at this
      obtain ⟨Z, hZ⟩ : ∃ Z : ByteArray, Z = ⟨(x ++ y).toArray⟩ := ⟨_, rfl⟩
      have hcat : (⟨x.toArray⟩ ++ ⟨y.toArray⟩ : ByteArray) = Z := by rw [hZ]; exact ba_append x y
      have hsl : ∀ W, (Instr.slice 9 (.string Z) (some (.int .i64 (x.length : Int))) none none).run Tryd.prog W = .ok (.string ⟨y.toArray⟩) W := fun W => by
        rw [hZ, str_from (x ++ y) x.length W (by simp)]
        simp
      have HDc := hid fun (W : World) (hb : Below w.heap.size w W) => decode_any (x ++ y) W (HEnv.out W hb) (by have := LX.out; have := LY.out; simp; omega)
      rw [← hZ, D1.out] at HDc
      have hx9 := LX.out
      have hy9 := LY.out
      clear hy hZ
      go_wp2_with fail
      refine HN2.out.mono ?_; rintro e w4 ⟨rfl, hb4⟩
      have B4 := hid (B3.out.trans (hb4.out.mono B3.out.size))
      have A4 := hid (row_keep hb4.out A3.out)
      have C4 := hid (row_keep hb4.out C3.out)
      clear hb4 HN2 e0 e1 e2 e3
      go_wp2_with fail
      refine (HDc.out _ B4.out).mono ?_; rintro e w5 ⟨a0, a1, a2, p5, m5, c5, n5, x5, rfl, hh⟩
      obtain ⟨rfl, hn, hrp⟩ := hh.out.1
      have hn5 : n5 = (x.length : Int) := by rw [hn]; simp
      clear hn
      subst hn5
      have B5 := hid (B4.out.trans (hh.out.2.mono B4.out.size))
      have A5 := hid (row_keep hh.out.2 A4.out)
      have C5 := hid (row_keep hh.out.2 C4.out)
      have Q1 := hid fun (W : World) (hb : Below w5.heap.size w5 W) => (hrp.all (Nat.le_refl _)).below hb (Nat.le_refl _)
      have HZ5 := hid fun (o : Obj) => heap_alloc_new w5 o
      have HD2 := hid fun (W : World) (hb : Below w.heap.size w W) => decode_any y W (HEnv.out W hb) (by have := LY.out; omega)
      rw [D2.out] at HD2
      clear hh HDc hrp
      go_wp2_with fail
      refine (HD2.out _ (B5.out.alloc B5.out.size _)).mono ?_; rintro e w6 ⟨g0, g1, g2, p6, m6, c6, n6, x6, rfl, hh⟩
      obtain ⟨rfl, hn, hrp⟩ := hh.out.1
      have hn6 : n6 = (y.length : Int) := by rw [hn]; simp
      clear hn
      subst hn6
      have B56 := hid ((below_alloc w5 _).trans (hh.out.2.mono (by simp)))
      have N6 := hid (row_keep hh.out.2 (HZ5.out _))
      have B6 := hid (B5.out.trans (B56.out.mono B5.out.size))
      have A6 := hid (row_keep B56.out A5.out)
      have C6 := hid (row_keep B56.out C5.out)
      have Q2 := hid fun (W : World) (hb : Below w6.heap.size w6 W) => (hrp.all (Nat.le_refl _)).below hb (Nat.le_refl _)
      have HZ6 := hid fun (o : Obj) => heap_alloc_new w6 o
      clear hh HD2 hrp hsl hcat hx9 hy9
      go_wp2_with fail
      refine (HAl.out _ (B6.out.alloc B6.out.size _)).mono ?_; rintro e w7 ⟨rfl, hb7⟩
      have B67 := hid ((below_alloc w6 _).trans (hb7.out.mono (by simp)))
      have M7 := hid (row_keep hb7.out (HZ6.out _))
      have N7 := hid (row_keep B67.out N6.out)
      have A7 := hid (row_keep B67.out A6.out)
      have C7 := hid (row_keep B67.out C6.out)
      have B7 := hid (B6.out.trans (B67.out.mono B6.out.size))
      clear hb7
      obtain ⟨⟨e0, e1, e2, e3⟩, -⟩ := row_facts A7.out
      obtain ⟨⟨i0, i1, i2, i3⟩, -⟩ := row_facts N7.out
      have Y1 := hid (rsame_yes (Q1.out w7 (B56.out.trans (B67.out.mono B56.out.size))) (P1.out w7 B7.out))
      go_wp2_with fail
      refine Y1.out.mono ?_; rintro e w8 ⟨rfl, hb8⟩
      have B8 := hid (B7.out.trans (hb8.mono B7.out.size))
      have M8 := hid (row_keep hb8 M7.out)
      have C8 := hid (row_keep hb8 C7.out)
      have B68 := hid (B67.out.trans (hb8.mono B67.out.size))
      clear hb8 e0 e1 e2 e3 i0 i1 i2 i3
      obtain ⟨⟨e0, e1, e2, e3⟩, -⟩ := row_facts C8.out
      obtain ⟨⟨i0, i1, i2, i3⟩, -⟩ := row_facts M8.out
      have Y2 := hid (rsame_yes (Q2.out w8 B68.out) (P2.out w8 B8.out))
      go_wp2_with fail
      refine Y2.out.mono ?_; rintro e w9 ⟨rfl, hb9⟩
      have B9 := hid (B8.out.trans (hb9.mono B8.out.size))
      clear hb9
      go_wp2_with fail
      go_ret
      exact ⟨rfl, B9.out⟩

end Go.Proofs.YtngkbacnajgmcabDoor
