/- The laws PacketWrites, PacketBack and PacketUnlike. -/
import Derived.Test.YtgpdbcigogkkbaaDoorPkAlive
import Derived.Test.YtgpdbcigogkkbaaDoorPkRef2
import Derived.Test.YtgpdbcigogkkbaaDoorQuiet
namespace Go.Proofs.YtgpdbcigogkkbaaDoor
open Go.RowKit
open Slot

theorem grown_pk {w w' : World} {b : Nat} {p : Pk} (h : PBox w b p) (hc : ∃ q : Regrown, w' = Sort.grow (redrawn w q.d) q.os) : w'.heap[b]? = some (.cells (pkCells p) 26 (0, 0)) := by
  obtain ⟨q, rfl⟩ := hc
  exact h.below (below_regrown w q.d q.os) h.lt
set_option maxHeartbeats 4000000 in
set_option maxRecDepth 100000 in
/-- PacketWrites -/
theorem writes_any (p : Pk) (w : World) (hE : Env w) (hep : p.epoch < 18446744073709551616) (hcu : p.cur < 18446744073709551616) : Calls Tryd.prog 3 #[.agg (pkCells p)] w fun e w' => e = .returned (.bool true) ∧ Below w.heap.size w w' := by
  have HP := hid (pbox_new w p)
  have HW := hid (below_alloc w (.cells (pkCells p) 26))
  have HE := hid hE
  have HEn := hid (fun w h => encode_any p w h)
  have HRn := hid (fun w => rencode_any p w hep hcu)
  have HA := hid alive_any
  have HR := hid (right_any p)
  have HRr := hid (rright_any p)
  generalize encS p = X at *
  generalize encE p = Y at *
  generalize rightP p = R at *
  clear hE hep hcu
  go_enter Tryd.func3, Tryd.ntmps3
  go_wp2_with (refine wpList_load_row rfl 26 _ rfl w.heap.size rfl 26 _ (0, 0) _ HP.out Tryd.underlying26 rfl (infoPk _) (Hid.out ?_))
  refine hid ?_
  go_wp2_with fail
  refine (HEn.out _ (HE.out.below HW.out HE.out.room)).mono ?_; rintro e w1 ⟨rfl, hb⟩
  have B1 := hid (HP.out.below hb HP.out.lt)
  have W1 := hid (HW.out.trans (hb.mono HW.out.size))
  clear hb HP HW HEn
  go_wp2_with (refine wpList_load_row rfl 26 _ rfl w.heap.size rfl 26 _ (0, 0) _ B1.out Tryd.underlying26 rfl (infoPk _) (Hid.out ?_))
  refine hid ?_
  go_wp2_with fail
  refine (HRn.out _).mono ?_; rintro e w2 ⟨rfl, hb⟩
  have B2 := hid (B1.out.below hb B1.out.lt)
  have W2 := hid (W1.out.trans (hb.mono W1.out.size))
  clear hb B1 W1 HRn
  have C1 := hid fun d os => Calls.regrown_of (HA.out (Sort.grow (redrawn w2 d) os) (HE.out.below (W2.out.trans ((below_regrown w2 d os).mono W2.out.size)) HE.out.room))
  have C2 := hid fun d os => Calls.regrown_of (HR.out (Sort.grow (redrawn w2 d) os))
  have C3 := hid fun d os => Calls.regrown_of (HRr.out (Sort.grow (redrawn w2 d) os))
  clear HA HR HRr
  cases R
  all_goals
    go_wp2_with fail
    refine wp_region_quiet_below (by kernel_rfl) (by kernel_rfl) ?_
    repeat (first
      | (refine quiet_load rfl 26 _ rfl w.heap.size rfl 26 _ (0, 0) _ (fun W hc => grown_pk B2.out hc) Tryd.underlying26 rfl (infoPk _) ?_)
      | quiet_step (first | exact C1.out _ _ | exact C2.out _ _ | exact C3.out _ _))
    refine wpQuiet_nil ?_
    intro _ hw'
    obtain ⟨⟨dq, osq⟩, hw''⟩ := hw'
    subst hw''
    go_wp2
    go_ret
    exact ⟨ret_bool (by simp), W2.out.trans ((below_regrown w2 dq osq).mono W2.out.size)⟩
set_option maxHeartbeats 4000000 in
set_option maxRecDepth 100000 in
theorem back_yes (p : Pk) (w : World) (hE : Env w) (hep : p.epoch < 18446744073709551616) (hcu : p.cur < 18446744073709551616) (hr : rightP p = true) : Calls Tryd.prog 5 #[.agg (pkCells p)] w fun e w' => e = .returned (.bool true) ∧ Below w.heap.size w w' := by
  have hz := zeroPk
  have HP := hid (pbox_new w p)
  have HW := hid (below_alloc w (.cells (pkCells p) 26))
  have HE := hid hE
  have HA := hid alive_any
  have hlk := rd_enc hr hep hcu
  obtain ⟨e1, e2⟩ := dec_is (dec_enc hr hep hcu)
  have hln : (enc p).length ≤ 100000 := by rw [enc_len]; have := ctext_len p.cl; omega
  have HEn : Hid (∀ w, Env w → Calls Tryd.prog 9 #[.agg (pkCells p)] w fun e w' => e = .returned (.tuple #[.string ⟨(enc p).toArray⟩, .int .i64 0]) ∧ Below w.heap.size w w') := fun w h => by
    have := encode_any p w h
    unfold encS encE at this
    rwa [if_pos hr, if_pos hr] at this
  have HDe : Hid (∀ w, Env w → Calls Tryd.prog 14 #[.string ⟨(enc p).toArray⟩] w fun e w' => e = .returned (.tuple #[.agg (pkCells (rdP (enc p))), .int .i64 0]) ∧ Below w.heap.size w w') := fun w h => by
    have := decode_any (enc p) w h (by omega)
    rwa [e1, e2] at this
  have heq := fun w => eq_packet (rdP (enc p)) p w
  rw [(sameP_iff _ _).2 hlk] at heq
  clear hE hep hcu hlk hr e1 e2
  generalize rdP (enc p) = R at *
  generalize enc p = D at *
  go_enter Tryd.func5, Tryd.ntmps5
  go_wp2_with (refine wpList_load_row rfl 26 _ rfl w.heap.size rfl 26 _ (0, 0) _ HP.out Tryd.underlying26 rfl (infoPk _) (Hid.out ?_))
  refine hid ?_
  go_wp2_with fail
  refine (HEn.out _ (HE.out.below HW.out HE.out.room)).mono ?_; rintro e w1 ⟨rfl, hb⟩
  have B1 := hid (HP.out.below hb HP.out.lt)
  have W1 := hid (HW.out.trans (hb.mono HW.out.size))
  clear hb HP HW HEn
  go_wp2_with fail
  refine (HDe.out _ (HE.out.below W1.out HE.out.room)).mono ?_; rintro e w4 ⟨rfl, hb⟩
  have B4 := hid (B1.out.below hb B1.out.lt)
  have W4 := hid (W1.out.trans (hb.mono W1.out.size))
  have HZ4 : Hid (PBox (w4.alloc (.cells (pkCells zeroP) 26)) w4.heap.size zeroP) := pbox_new w4 zeroP
  clear hb HDe B1 W1
  go_wp2_with (refine wpList_store_row rfl 26 _ _ rfl w4.heap.size (pkCells R) rfl rfl 26 _ HZ4.out (infoPk _) (sizesPk _ _) (onePk _) (Hid.out ?_))
  have B5 : Hid (PBox ((w4.alloc (.cells (pkCells zeroP) 26)).setRow w4.heap.size (pkCells R)) w4.heap.size R) := pbox_set HZ4.out
  have W5 : Hid (Below w.heap.size w ((w4.alloc (.cells (pkCells zeroP) 26)).setRow w4.heap.size (pkCells R))) := below_setRow (W4.out.alloc W4.out.size _) W4.out.size _
  have P5 : Hid (PBox ((w4.alloc (.cells (pkCells zeroP) 26)).setRow w4.heap.size (pkCells R)) w.heap.size p) := (setRow_other _ _ _ _ (by have := B4.out.lt; omega)).trans ((heap_alloc_old w4 _ B4.out.lt).trans B4.out)
  generalize (w4.alloc (.cells (pkCells zeroP) 26)).setRow w4.heap.size (pkCells R) = w5 at B5 W5 P5 ⊢
  generalize w4.heap.size = b at B5 ⊢
  refine hid ?_
  clear HZ4 B4 W4
  go_wp2_with fail
  refine (HA.out _ (HE.out.below W5.out HE.out.room)).mono ?_; rintro e w6 ⟨rfl, hb⟩
  have B6 := hid (B5.out.below hb B5.out.lt)
  have P6 := hid (P5.out.below hb P5.out.lt)
  have W6 := hid (W5.out.trans (hb.mono W5.out.size))
  clear hb B5 P5 W5
  go_wp2_with (first | (refine wpList_load_want rfl 26 _ rfl b rfl 26 _ (0, 0) _ B6.out Tryd.underlying26 rfl (infoPk _) ?_) | (refine wpList_load_want rfl 26 _ rfl w.heap.size rfl 26 _ (0, 0) _ P6.out Tryd.underlying26 rfl (infoPk _) ?_))
  go_ret
  exact ⟨rfl, W6.out⟩
set_option maxHeartbeats 4000000 in
set_option maxRecDepth 100000 in
theorem back_no (p : Pk) (w : World) (hE : Env w) (hr : rightP p = false) : Calls Tryd.prog 5 #[.agg (pkCells p)] w fun e w' => e = .returned (.bool true) ∧ Below w.heap.size w w' := by
  have hz := zeroPk
  have HP := hid (pbox_new w p)
  have HW := hid (below_alloc w (.cells (pkCells p) 26))
  have HE := hid hE
  have HA := hid alive_any
  have HEn : Hid (∀ w, Env w → Calls Tryd.prog 9 #[.agg (pkCells p)] w fun e w' => e = .returned (.tuple #[.string ⟨#[]⟩, .int .i64 140]) ∧ Below w.heap.size w w') := fun w h => encode_bad p w hr
  have HDe : Hid (∀ w, Calls Tryd.prog 14 #[.string ⟨#[]⟩] w fun e w' => e = .returned (.tuple #[.agg (pkCells zeroP), .int .i64 140]) ∧ Below w.heap.size w w') := fun w => decode_short [] w (by decide)
  clear hE hr
  go_enter Tryd.func5, Tryd.ntmps5
  go_wp2_with (refine wpList_load_row rfl 26 _ rfl w.heap.size rfl 26 _ (0, 0) _ HP.out Tryd.underlying26 rfl (infoPk _) (Hid.out ?_))
  refine hid ?_
  go_wp2_with fail
  refine (HEn.out _ (HE.out.below HW.out HE.out.room)).mono ?_; rintro e w1 ⟨rfl, hb⟩
  have W1 := hid (HW.out.trans (hb.mono HW.out.size))
  clear hb HP HW HEn
  go_wp2_with fail
  refine (HDe.out _).mono ?_; rintro e w4 ⟨rfl, hb⟩
  have W4 := hid (W1.out.trans (hb.mono W1.out.size))
  have HZ4 : Hid (PBox (w4.alloc (.cells (pkCells zeroP) 26)) w4.heap.size zeroP) := pbox_new w4 zeroP
  clear hb HDe W1
  go_wp2_with (refine wpList_store_row rfl 26 _ _ rfl w4.heap.size (pkCells zeroP) rfl rfl 26 _ HZ4.out (infoPk _) (sizesPk _ _) (onePk _) (Hid.out ?_))
  have W5 : Hid (Below w.heap.size w ((w4.alloc (.cells (pkCells zeroP) 26)).setRow w4.heap.size (pkCells zeroP))) := below_setRow (W4.out.alloc W4.out.size _) W4.out.size _
  generalize (w4.alloc (.cells (pkCells zeroP) 26)).setRow w4.heap.size (pkCells zeroP) = w5 at W5 ⊢
  refine hid ?_
  clear HZ4 W4
  go_wp2_with fail
  refine (HA.out _ (HE.out.below W5.out HE.out.room)).mono ?_; rintro e w6 ⟨rfl, hb⟩
  have W6 := hid (W5.out.trans (hb.mono W5.out.size))
  clear hb W5
  go_wp2_with fail
  go_ret
  exact ⟨rfl, W6.out⟩
/-- PacketBack -/
theorem back_any (p : Pk) (w : World) (hE : Env w) (hep : p.epoch < 18446744073709551616) (hcu : p.cur < 18446744073709551616) : Calls Tryd.prog 5 #[.agg (pkCells p)] w fun e w' => e = .returned (.bool true) ∧ Below w.heap.size w w' := by
  cases hr : rightP p
  · exact back_no p w hE hr
  · exact back_yes p w hE hep hcu hr
theorem unlike_eq {p q : Pk} (hp : rightP p = true) (hq : rightP q = true) (h1 : p.epoch < 18446744073709551616) (h2 : p.cur < 18446744073709551616) (h3 : q.epoch < 18446744073709551616) (h4 : q.cur < 18446744073709551616) : (enc p == enc q) = sameP p q := by
  rw [Bool.eq_iff_iff, sameP_iff, beq_iff_eq]
  exact ⟨fun h => enc_inj hp hq h1 h2 h3 h4 h, fun h => h.enc⟩
set_option maxHeartbeats 4000000 in
set_option maxRecDepth 100000 in
theorem unlike_core (p q : Pk) (D F : Bs) (y z : Int) (Z : Bool) (w : World) (hE : Env w)
    (hEn : ∀ w, Env w → Calls Tryd.prog 9 #[.agg (pkCells p)] w fun e w' => e = .returned (.tuple #[.string ⟨D.toArray⟩, .int .i64 y]) ∧ Below w.heap.size w w')
    (hEm : ∀ w, Env w → Calls Tryd.prog 9 #[.agg (pkCells q)] w fun e w' => e = .returned (.tuple #[.string ⟨F.toArray⟩, .int .i64 z]) ∧ Below w.heap.size w w')
    (heq : ∀ w, (Op.equalIn 10000 26 (.agg (pkCells p)) (.agg (pkCells q))).run Tryd.prog w = .ok Z w) (hU : y = 0 → z = 0 → (D == F) = Z) :
    Calls Tryd.prog 8 #[.agg (pkCells p), .agg (pkCells q)] w fun e w' => e = .returned (.bool true) ∧ Below w.heap.size w w' := by
  have HP : Hid (PBox ((w.alloc (.cells (pkCells p) 26)).alloc (.cells (pkCells q) 26)) w.heap.size p) := heap_alloc2_old w _ _
  have HQ : Hid (PBox ((w.alloc (.cells (pkCells p) 26)).alloc (.cells (pkCells q) 26)) (w.heap.size + 1) q) := heap_alloc2_new w _ _
  have HW : Hid (Below w.heap.size w ((w.alloc (.cells (pkCells p) 26)).alloc (.cells (pkCells q) 26))) := (below_alloc w _).alloc (by simp) _
  have HE := hid hE
  have HA := hid alive_any
  have HEn := hid hEn
  have HEm := hid hEm
  have HU := hid hU
  clear hE hEn hEm hU
  go_enter Tryd.func8, Tryd.ntmps8
  go_wp2_with (refine wpList_load_row rfl 26 _ rfl w.heap.size rfl 26 _ (0, 0) _ HP.out Tryd.underlying26 rfl (infoPk _) (Hid.out ?_))
  refine hid ?_
  go_wp2_with fail
  refine (HEn.out _ (HE.out.below HW.out HE.out.room)).mono ?_; rintro e w1 ⟨rfl, hb⟩
  have B1 := hid (HP.out.below hb HP.out.lt)
  have Q1 := hid (HQ.out.below hb HQ.out.lt)
  have W1 := hid (HW.out.trans (hb.mono HW.out.size))
  clear hb HP HW HEn HQ
  go_wp2_with (refine wpList_load_row rfl 26 _ rfl (w.heap.size + 1) rfl 26 _ (0, 0) _ Q1.out Tryd.underlying26 rfl (infoPk _) (Hid.out ?_))
  refine hid ?_
  go_wp2_with fail
  refine (HEm.out _ (HE.out.below W1.out HE.out.room)).mono ?_; rintro e w2 ⟨rfl, hb⟩
  have B2 := hid (B1.out.below hb B1.out.lt)
  have Q2 := hid (Q1.out.below hb Q1.out.lt)
  have W2 := hid (W1.out.trans (hb.mono W1.out.size))
  clear hb B1 Q1 W1 HEm
  go_wp2_with fail
  refine (HA.out _ (HE.out.below W2.out HE.out.room)).mono ?_; rintro e w3 ⟨rfl, hb⟩
  have B3 := hid (B2.out.below hb B2.out.lt)
  have Q3 := hid (Q2.out.below hb Q2.out.lt)
  have W3 := hid (W2.out.trans (hb.mono W2.out.size))
  clear hb B2 Q2 W2 HA
  by_cases hy : y = 0
  · by_cases hz : z = 0
    · have hx := HU.out hy hz
      subst hy
      subst hz
      clear HU
      cases Z
      all_goals
        go_wp2_with (first | (refine wpList_load_want rfl 26 _ rfl w.heap.size rfl 26 _ (0, 0) _ B3.out Tryd.underlying26 rfl (infoPk _) ?_) | (refine wpList_load_want rfl 26 _ rfl (w.heap.size + 1) rfl 26 _ (0, 0) _ Q3.out Tryd.underlying26 rfl (infoPk _) ?_))
        go_ret
        exact ⟨rfl, W3.out⟩
    · subst hy
      have hz2 : (z == 0) = false := beq_eq_false_iff_ne.2 hz
      go_wp2_with fail
      go_ret
      exact ⟨rfl, W3.out⟩
  · have hy2 : (y == 0) = false := beq_eq_false_iff_ne.2 hy
    go_wp2_with fail
    go_ret
    exact ⟨rfl, W3.out⟩
/-- PacketUnlike -/
theorem unlike_any (p q : Pk) (w : World) (hE : Env w) (h1 : p.epoch < 18446744073709551616) (h2 : p.cur < 18446744073709551616) (h3 : q.epoch < 18446744073709551616) (h4 : q.cur < 18446744073709551616) : Calls Tryd.prog 8 #[.agg (pkCells p), .agg (pkCells q)] w fun e w' => e = .returned (.bool true) ∧ Below w.heap.size w w' := by
  refine unlike_core p q (encS p) (encS q) (encE p) (encE q) (sameP p q) w hE (fun w h => encode_any p w h) (fun w h => encode_any q w h) (fun w => eq_packet p q w) (fun a b => ?_)
  have right_of : ∀ r : Pk, encE r = 0 → rightP r = true := fun r h => by
    cases e : rightP r
    · unfold encE at h; rw [e, if_neg (by decide)] at h; exact absurd h (by decide)
    · rfl
  have ha := right_of p a
  have hb := right_of q b
  unfold encS
  rw [if_pos ha, if_pos hb]
  exact unlike_eq ha hb h1 h2 h3 h4

end Go.Proofs.YtgpdbcigogkkbaaDoor
