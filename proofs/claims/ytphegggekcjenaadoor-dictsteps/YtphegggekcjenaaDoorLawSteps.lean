/- The law of steps in between. -/
import Derived.Test.YtphegggekcjenaaDoorTwo
namespace Go.Proofs.YtphegggekcjenaaDoor
open Go.RowKit

set_option maxHeartbeats 4000000 in
set_option maxRecDepth 100000 in
theorem steps_any {V : World → Prop} {B : Nat} {Dq : World → Nat → (Nat → Prop) → DM Int → Prop} (M : MethI V B Dq) (p : Option Addr) (ops : List OpI) (cp : Nat) (p' : Option Addr) (at' : List Int) (cp' : Nat) (w : World) (hV : V w) (hB : B ≤ w.heap.size) (hO : OpsI w p ops) (hN : ∀ o ∈ ops, o.name.length ≤ 140737488351232) (hn : ops.length ≤ 9223372036854775807) (hO' : Nums w p' at') (hfit : ∀ x ∈ at', -9223372036854775808 ≤ x ∧ x ≤ 9223372036854775807) (hn' : at'.length ≤ 9223372036854775807) :
    Calls Tryd.prog 4 #[.slice p ops.length cp, .slice p' at'.length cp'] w fun e w' => e = .returned (.bool true) ∧ Below w.heap.size w w' := by
  have HM := hid M
  have HV := hid hV
  have HNL := hid hN
  clear hN
  have HN := hid (M.new w hV hB)
  have HO := hid hO
  have HA := hid hO'
  have HF := hid hfit
  have HSm := hid (small_run ops)
  clear M hV hO hO' hfit
  have hnz : (ops.length : Int) ≤ 9223372036854775807 := by omega
  have hnz' : (at'.length : Int) ≤ 9223372036854775807 := by omega
  by_cases hbig : 600 < ops.length ∨ 600 < at'.length
  · have hbz : (600 : Int) < (ops.length : Int) ∨ (600 : Int) < (at'.length : Int) := by omega
    clear hbig
    by_cases h1 : (600 : Int) < (ops.length : Int)
    all_goals by_cases h2 : (600 : Int) < (at'.length : Int)
    all_goals first | (exfalso; omega) | skip
    all_goals
      clear hbz
      go_enter Tryd.func4, Tryd.ntmps4
      go_wp2_with fail
      refine HN.out.mono ?_; rintro e w1 ⟨b1, rfl, hh⟩
      obtain ⟨O0, hO0⟩ := hh.out
      have H1 := hid hO0
      have hB1 : B ≤ w1.heap.size := Nat.le_trans hB hO0.2.2.size
      have HN2 := hid (HM.out.new w1 (HM.out.envB HV.out hB hB hO0.2.2) hB1)
      clear hh hO0
      go_wp2_with fail
      refine HN2.out.mono ?_; rintro e w2 ⟨b2, rfl, hh⟩
      obtain ⟨O2, hO2⟩ := hh.out
      have HB2 := hid (H1.out.2.2.trans (hO2.2.2.mono H1.out.2.2.size))
      clear hh hO2
      go_wp2_with fail
      refine (alive_any HM.out _ (HM.out.envB HV.out hB hB HB2.out) (Nat.le_trans hB HB2.out.size)).mono ?_; rintro e w3 ⟨rfl, hh⟩
      have HB3 := hid (HB2.out.trans (hh.out.mono HB2.out.size))
      clear hh
      go_wp2_with fail
      go_ret
      exact ⟨rfl, HB3.out⟩
  · have h1 : ¬ (600 : Int) < (ops.length : Int) := by omega
    have h2 : ¬ (600 : Int) < (at'.length : Int) := by omega
    have hno : ops.length ≤ 600 := by omega
    clear hbig
    go_enter Tryd.func4, Tryd.ntmps4
    go_wp2_with fail
    refine HN.out.mono ?_; rintro e w1 ⟨b1, rfl, hh⟩
    obtain ⟨O0, hO0⟩ := hh.out
    have H1 := hid hO0
    have hB1 : B ≤ w1.heap.size := Nat.le_trans hB hO0.2.2.size
    have HN2 := hid (HM.out.new w1 (HM.out.envB HV.out hB hB hO0.2.2) hB1)
    clear hh hO0
    go_wp2_with fail
    refine HN2.out.mono ?_; rintro e w2 ⟨b2, rfl, hh⟩
    obtain ⟨O2, hO2⟩ := hh.out
    have HB2 := hid (H1.out.2.2.trans (hO2.2.2.mono H1.out.2.2.size))
    have HT2 := hid (Two.new HM.out.frm H1.out.1 H1.out.2.1 H1.out.2.2 hO2.1 hO2.2.1 hO2.2.2)
    clear hh hO2
    go_wp2_with fail
    go_loopw [7, 8, 44] (fun _ _ v44 W => ∃ i : Nat, v44 = .int .i64 i ∧ i ≤ ops.length ∧ Hid (∃ O1 O2 F, Two Dq w.heap.size O1 O2 W b1 b2 (runD newD (ops.take i)) F ∧ F.L = (runD newD (ops.take i)).L ∧ Small i F) ∧ Hid (Below w.heap.size w W)) (fun _ _ v44 _ => ops.length - (intOf v44).toNat)
    case atStart => exact ⟨0, rfl, Nat.zero_le _, ⟨_, _, _, HT2.out, rfl, Small.new⟩, HB2.out⟩
    case round =>
      obtain ⟨i, rfl, hi, HTT, HW⟩ := hrel
      obtain ⟨O1, O2', F, hT, hFL, hFS⟩ := HTT.out
      have HT := hid hT
      have HFL := hid hFL
      have HFS := hid hFS
      clear HTT hT hFL hFS H1 HN HN2 HT2
      by_cases hlt : i < ops.length
      · have hlz : (i : Int) < (ops.length : Int) := by omega
        obtain ⟨g, o, rfl, hcs⟩ := HO.out (fun e => by rw [e] at hlt; simp at hlt)
        have hgl := block_lt_of_cell (hcs i hlt).1
        have x0 := cell_turn (hcs i hlt).1 (HW.out.block g hgl)
        have x1 := cell_turn (hcs i hlt).2.1 (HW.out.block g hgl)
        have x2 := cell_turn (hcs i hlt).2.2 (HW.out.block g hgl)
        have HNx := hid (runD_take (D := newD) hlt)
        have HSi := hid (HSm.out i (by omega))
        have HNi := hid (HNL.out _ (List.getElem_mem hlt))
        generalize ops[i] = op at *
        generalize runD newD (ops.take i) = Di at *
        clear hcs
        have HB1 := hid (below_alloc wr (.cells #[.int .i64 op.kind, .int .i64 op.v, txt op.name] 35))
        have HR1 := hid (heap_alloc_new wr (.cells #[.int .i64 op.kind, .int .i64 op.v, txt op.name] 35))
        have HT1 := hid (HT.out.below HM.out.frm HB1.out)
        have HZ1 : Hid ((wr.alloc (.cells #[.int .i64 op.kind, .int .i64 op.v, txt op.name] 35)).heap.size = wr.heap.size + 1) := by simp [Hid]
        have HW1 := hid (HW.out.trans (HB1.out.mono HW.out.size))
        have hS1 : Small 100000 Di := HSi.out.mono (by omega)
        have hS2 : Small 100000 F := HFS.out.mono (by omega)
        have hS0 : Small 100000 (newD : DM Int) := Small.new.mono (by omega)
        have HS1 := hid hS1
        have HS2 := hid hS2
        have HS0 := hid hS0
        clear hS1 hS2 hS0
        go_wp2_with fail
        generalize hWe : wr.alloc (.cells #[.int .i64 op.kind, .int .i64 op.v, txt op.name] 35) = W1 at *
        clear hWe
        have hnr : wr.heap.size < W1.heap.size := by have := HZ1.out; omega
        have HOn1 : Hid (¬ O1 wr.heap.size) := fun h => by have := HM.out.lt HT.out.one _ h; omega
        have HOn2 : Hid (¬ O2' wr.heap.size) := fun h => by have := HM.out.lt HT.out.two _ h; omega
        obtain ⟨m0, m1, m2⟩ := op_facts HR1.out
        go_region_law (first
          | (go_simp; go_at_call 14; refine (rnew_any _).mono ?_; rintro e w3 ⟨rfl, hh⟩; have hb3 := (Below.refl W1.heap.size W1).drew.trans hh.out; have HT3 := hid (HT1.out.below HM.out.frm hb3); have HR3 := hid ((hb3.block wr.heap.size hnr).trans HR1.out); obtain ⟨u0, u1, u2⟩ := op_facts HR3.out; have hs3 := hb3.size; have HW3 := hid (HW1.out.trans (hb3.mono HW1.out.size)); clear hh hb3)
          | (go_simp; go_at_call 13; refine (does_both HM.out b1 O1 (fun _ => True) Di newD (.slice none 0 0) op _ HT3.out.one (It.nil _ _) (fun _ _ => trivial) HS1.out HS0.out HNi.out).mono ?_; rintro e w4 ⟨q4, d4, rfl, hh⟩; obtain ⟨O4, k1, -, k3, k4⟩ := hh.out; have HT4 := hid (HT3.out.fst HM.out.frm hB HW3.out.size k1 k3 k4); have HR4 := hid ((k4.block wr.heap.size (by omega) HOn1.out).trans HR3.out); have hs4 := k4.size; have HW4 := hid (keep_off_below HW3.out k4 HT3.out.off1 HW3.out.size); clear hh k1 k3 k4))
        all_goals
          clear m0 m1 m2 u0 u1 u2
          obtain ⟨m0, m1, m2⟩ := op_facts HR4.out
          go_wp2_with fail
          go_region_law (first
            | (go_simp; go_at_call 14; refine (rnew_any _).mono ?_; rintro e w5 ⟨rfl, hh⟩; have hb5 := (Below.refl w4.heap.size w4).drew.trans hh.out; have HT5 := hid (HT4.out.below HM.out.frm hb5); have HR5 := hid ((hb5.block wr.heap.size (by omega)).trans HR4.out); obtain ⟨u0, u1, u2⟩ := op_facts HR5.out; have hs5 := hb5.size; have HW5 := hid (HW4.out.trans (hb5.mono HW4.out.size)); clear hh hb5)
            | (go_simp; go_at_call 13; refine (does_both HM.out b2 O2' (fun _ => True) F newD (.slice none 0 0) op _ HT5.out.two (It.nil _ _) (fun _ _ => trivial) HS2.out HS0.out HNi.out).mono ?_; rintro e w6 ⟨q6, d6, rfl, hh⟩; obtain ⟨O6, k1, -, k3, k4⟩ := hh.out; have HT6 := hid (HT5.out.snd HM.out.frm hB HW5.out.size k1 k3 k4); have hs6 := k4.size; have HW6 := hid (keep_off_below HW5.out k4 HT5.out.off2 HW5.out.size); clear hh k1 k3 k4))
          all_goals
            clear m0 m1 m2 u0 u1 u2 HR1 HR3 HR4 HR5 HT HT1 HT3 HT4 HT5 HW HW1 HW3 HW4 HW5
            have HF6 : Hid ((doD F op).L = (doD Di op).L) := doD_L op HFL.out
            have HS6 := hid (HFS.out.do op)
            generalize doD F op = F' at *
            rw [← HNx.out] at HT6 HF6
            generalize hDn : runD newD (ops.take (i + 1)) = Dn at *
            by_cases hin : i < at'.length
            · have hiz : (i : Int) < (at'.length : Int) := by omega
              obtain ⟨g', o', rfl, hca⟩ := HA.out (fun e => by rw [e] at hin; simp at hin)
              have y0 := cell_turn (hca i hin) (HW6.out.block g' (block_lt_of_cell (hca i hin)))
              have hfx := HF.out _ (List.getElem_mem hin)
              generalize at'[i] = x at *
              clear hca
              obtain ⟨c, hc⟩ : ∃ c : Nat, (c : Int) = max (min x 20) 0 := ⟨(max (min x 20) 0).toNat, by omega⟩
              go_wp2_with fail
              go_loopw [67] (fun v67 W => ∃ j : Int, v67 = .int .i64 j ∧ 0 ≤ j ∧ j ≤ 20 ∧ Hid (∃ O6 F', Two Dq w.heap.size O4 O6 W b1 b2 Dn F' ∧ F'.L = Dn.L ∧ Small (i + 1) F') ∧ Hid (Below w.heap.size w W)) (fun v67 _ => 20 - (intOf v67).toNat)
              case atStart => exact ⟨0, rfl, by decide, by decide, ⟨_, F', HT6.out, HF6.out, HS6.out⟩, HW6.out⟩
              case round =>
                obtain ⟨j, rfl, hj0, hj1, HTT, HWW⟩ := hrel
                obtain ⟨O7, F7, hT, hFL, hFS⟩ := HTT.out
                have HT7 := hid hT
                have HF7 := hid hFL
                have HS7 := hid hFS
                have HSt := hid fun W h => HM.out.step b2 O7 F7 W h (hFS.mono (by omega))
                clear HTT hT hFL hFS
                by_cases hjl : max (min x 20) 0 ≤ j
                · go_wp2_with fail
                  refine ⟨⟨i + 1, by go_num, by omega, ⟨_, _, F7, by rw [hDn]; exact HT7.out, by rw [hDn]; exact HF7.out, HS7.out⟩, HWW.out⟩, by simp [intOf]; omega⟩
                · go_wp2_with fail
                  refine (HSt.out _ HT7.out.two).mono ?_; rintro e w8 ⟨rfl, hh⟩
                  obtain ⟨O8, k1, k2, k3⟩ := hh.out
                  have HT8 := hid (HT7.out.snd HM.out.frm hB HWW.out.size k1 k2 k3)
                  have HW8 := hid (keep_off_below HWW.out k3 HT7.out.off2 HWW.out.size)
                  clear hh k1 k2 k3
                  go_wp2_with fail
                  exact ⟨⟨j + 1, by go_num, by omega, by omega, ⟨O8, stepD F7, HT8.out, HF7.out, HS7.out.step⟩, HW8.out⟩, by simp [intOf]; omega⟩
            · have hiz : ¬ (i : Int) < (at'.length : Int) := by omega
              go_wp2_with fail
              refine ⟨⟨i + 1, by go_num, by omega, ⟨_, _, F', by rw [hDn]; exact HT6.out, by rw [hDn]; exact HF6.out, HS6.out⟩, HW6.out⟩, by simp [intOf]; omega⟩
      · have et : ops.take i = ops := List.take_of_length_le (by omega)
        rw [et] at HT HFL
        have HSD := hid (HSm.out ops.length (Nat.le_refl _))
        rw [List.take_length] at HSD
        generalize runD newD ops = D at *
        clear et HSm
        have hnl : (namesL D.L).length = D.L.length := by simp [namesL]
        have HSr := hid (HM.out.srt HT.out.one)
        have HNms := hid (HM.out.nms HT.out.one)
        have HN1 := hid fun W h => HM.out.names b1 O1 D W h (HSD.out.mono (by omega))
        have HN2 := hid fun W h => HM.out.names b2 O2' F W h (HFS.out.mono (by omega))
        have HL1 := hid fun W h => HM.out.length b1 O1 D W h
        have HL2 := hid fun W h => HM.out.length b2 O2' F W h
        have HG1 := hid fun n W h hn => HM.out.get b1 O1 D n W h (HSD.out.mono (by omega)) hn
        have HG2 := hid fun n W h hn => HM.out.get b2 O2' F n W h (HFS.out.mono (by omega)) hn
        rw [HFL.out] at HN2 HL2 HG2
        have hDl : D.L.length ≤ 600 := by have := HSD.out.len; omega
        have HSm2 := hid fun (W : World) (P Q : Nat → Prop) (v u : Value) (h1 : Tl P W v (namesL D.L)) (h2 : Tl Q W u (namesL D.L)) => same_any P Q v u (namesL D.L) (namesL D.L) W h1 h2 (by rw [hnl]; omega)
        rw [show decide (namesL D.L = namesL D.L) = true by simp] at HSm2
        go_wp2_with fail
        refine (HN1.out _ HT.out.one).mono ?_; rintro e w3 ⟨q3, c3, rfl, hh⟩
        have HT3 := hid (HT.out.below HM.out.frm hh.out.2)
        have HW3 := hid (HW.out.trans (hh.out.2.mono HW.out.size))
        have HTl3 := hid hh.out.1
        clear hh
        go_wp2_with fail
        refine (HN2.out _ HT3.out.two).mono ?_; rintro e w4 ⟨q4, c4, rfl, hh⟩
        have HT4 := hid (HT3.out.below HM.out.frm hh.out.2)
        have HW4 := hid (HW3.out.trans (hh.out.2.mono HW3.out.size))
        have HTl4 := hid (HTl3.out.below hh.out.2)
        have HTm4 := hid hh.out.1
        clear hh
        go_wp2_with fail
        refine (HSm2.out _ _ _ _ _ HTl4.out HTm4.out).mono ?_; rintro e w5 ⟨rfl, hh⟩
        have HT5 := hid (HT4.out.below HM.out.frm hh.out)
        have HW5 := hid (HW4.out.trans (hh.out.mono HW4.out.size))
        clear hh
        go_wp2_with fail
        refine (HL1.out _ HT5.out.one).mono ?_; rintro e w6 ⟨rfl, hh⟩
        have HT6 := hid (HT5.out.below HM.out.frm hh.out)
        have HW6 := hid (HW5.out.trans (hh.out.mono HW5.out.size))
        clear hh
        go_wp2_with fail
        refine (HL2.out _ HT6.out.two).mono ?_; rintro e w7 ⟨rfl, hh⟩
        have HT7 := hid (HT6.out.below HM.out.frm hh.out)
        have HW7 := hid (HW6.out.trans (hh.out.mono HW6.out.size))
        clear hh
        go_wp2_with fail
        refine (HN1.out _ HT7.out.one).mono ?_; rintro e w8 ⟨q8, c8, rfl, hh⟩
        have HT8 := hid (HT7.out.below HM.out.frm hh.out.2)
        have HW8 := hid (HW7.out.trans (hh.out.2.mono HW7.out.size))
        have HTl8 := hid hh.out.1
        clear hh HT HT3 HT4 HT5 HT6 HT7 HTl3 HTl4 HTm4 HN1 HN2 HL1 HL2 HSm2
        go_wp2_with fail
        go_loopw [10, 11, 12, 13, 14, 89] (fun _ _ _ _ _ v89 W => ∃ i : Nat, v89 = .int .i64 i ∧ i ≤ D.L.length ∧ Hid (Below w8.heap.size w8 W)) (fun _ _ _ _ _ v89 _ => D.L.length - (intOf v89).toNat)
        case atStart => exact ⟨0, rfl, Nat.zero_le _, Below.refl _ _⟩
        case round =>
          obtain ⟨j, rfl, hj, HWW⟩ := hrel
          by_cases hjl : j < D.L.length
          · have hjz : (j : Int) < (D.L.length : Int) := by omega
            obtain ⟨g8, o8, rfl, -, -, hc8⟩ := (HTl8.out.below HWW.out).cells j (by rw [hnl]; exact hjl)
            have x0 := hc8 j (by rw [hnl]; exact hjl)
            rw [show (namesL D.L)[j]'(by rw [hnl]; exact hjl) = D.L[j].1 by simp [namesL]] at x0
            have hget : getL D.L[j].1 D.L = some D.L[j].2 := (getL_mem HSr.out).2 (List.getElem_mem hjl)
            have HTj := hid (HT8.out.below HM.out.frm HWW.out)
            have HGa := hid fun W h => HG1.out D.L[j].1 W h (HNms.out _ (List.getElem_mem hjl))
            have HGb := hid fun W h => HG2.out D.L[j].1 W h (HNms.out _ (List.getElem_mem hjl))
            rw [hget] at HGa HGb
            simp only [Option.getD_some, Option.isSome_some] at HGa HGb
            generalize D.L[j] = it at *
            obtain ⟨nm, yy⟩ := it
            simp only at x0 HGa HGb
            clear hc8 hget
            go_wp2_with fail
            refine (HGa.out _ HTj.out.one).mono ?_; rintro e w9 ⟨rfl, hh⟩
            have HT9 := hid (HTj.out.below HM.out.frm hh.out)
            have HW9 := hid (HWW.out.trans (hh.out.mono HWW.out.size))
            clear hh
            go_wp2_with fail
            refine (HGb.out _ HT9.out.two).mono ?_; rintro e w10 ⟨rfl, hh⟩
            have HW10 := hid (HW9.out.trans (hh.out.mono HW9.out.size))
            clear hh
            go_wp2_with fail
            exact ⟨⟨j + 1, by go_num, by omega, HW10.out⟩, by simp [intOf]; omega⟩
          · go_wp2_with fail
            have HBa := hid (HW8.out.trans (HWW.out.mono HW8.out.size))
            refine (alive_any HM.out _ (HM.out.envB HV.out hB hB HBa.out) (Nat.le_trans hB HBa.out.size)).mono ?_; rintro e w11 ⟨rfl, hh⟩
            have HB11 := hid (HBa.out.trans (hh.out.mono HBa.out.size))
            clear hh
            go_wp2_with fail
            go_ret
            exact ⟨rfl, HB11.out⟩

end Go.Proofs.YtphegggekcjenaaDoor
