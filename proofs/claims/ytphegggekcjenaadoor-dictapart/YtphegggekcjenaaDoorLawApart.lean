/- The law of clones. -/
import Derived.Test.YtphegggekcjenaaDoorLawAll
namespace Go.Proofs.YtphegggekcjenaaDoor
open Go.RowKit

/-- the world behind a round: the new dict is laid, and set into the block nr -/
abbrev rounded (w5 : World) (nr : Nat) (v : Value) (r k : Int) : World := (((w5.alloc (.cells #[v, .int .i64 r, .int .i64 k] 26)).setCell ⟨nr, 0, none⟩ v).setCell ⟨nr, 1, none⟩ (.int .i64 r)).setCell ⟨nr, 2, none⟩ (.int .i64 k)
theorem round_facts {V : World → Prop} {B : Nat} {Dq : World → Nat → (Nat → Prop) → DM Int → Prop} (M : MethI V B Dq) {wr w5 : World} {b nr : Nat} {O O' P : Nat → Prop} {D' : DM Int} {v x y z : Value} {ob : Obj} (hBn : B ≤ nr) (hnr : nr < wr.heap.size) (hno : ¬ O nr) (hrow : wr.heap[nr]? = some (.cells #[x, y, z] 26 (0, 0))) (hP : ∀ j, P j → j ≠ nr)
    (hQ : Dq w5 b O' D' ∧ It (fun j => ¬ O' j ∧ P j) w5 v D'.L ∧ Grew (wr.alloc ob) O O' ∧ Keep (Off O) (wr.alloc ob) w5) :
    (rounded w5 nr v D'.rooms D'.left).heap[nr]? = some (.cells #[v, .int .i64 D'.rooms, .int .i64 D'.left] 26 (0, 0)) ∧ Dq (rounded w5 nr v D'.rooms D'.left) b O' D' ∧ It (fun j => ¬ O' j ∧ P j) (rounded w5 nr v D'.rooms D'.left) v D'.L ∧ (∀ k, O' k → O k ∨ wr.heap.size ≤ k) ∧ ¬ O' nr ∧ Keep (fun k => ¬ O k ∧ k ≠ nr) wr (rounded w5 nr v D'.rooms D'.left) := by
  obtain ⟨h1, h2, h3, h4⟩ := hQ
  have e1 : (wr.alloc ob).heap.size = wr.heap.size + 1 := by simp
  have hs5 := h4.size
  have hb := below_alloc w5 (.cells #[v, .int .i64 D'.rooms, .int .i64 D'.left] 26)
  have hno' : ¬ O' nr := fun h => by
    rcases h3 _ h with g | g
    · exact hno g
    · omega
  have hr5 := (h4.block nr (by omega) hno).trans ((heap_alloc_old wr ob hnr).trans hrow)
  refine ⟨set3_same _ nr _ _ _ _ _ _ ((heap_alloc_old w5 _ (by omega)).trans hr5), M.turn (M.below h1 hb) (fun k hk => set3_other _ nr _ _ _ k (fun e => by rcases hk with hk | hk; omega; exact hno' (e ▸ hk))) (by simp), (h2.below hb).set3 nr (fun j hj => hP j hj.2) _ _ _, fun k hk => ?_, hno', ⟨h4.os, h4.tape, h4.output, by simp; omega, fun k hk ho => ?_⟩⟩
  · rcases h3 k hk with g | g
    · exact .inl g
    · exact .inr (by omega)
  · exact (set3_other _ nr _ _ _ k ho.2).trans ((heap_alloc_old w5 _ (by omega)).trans ((h4.block k (by omega) ho.1).trans (heap_alloc_old wr ob hk)))
theorem small_more (ops : List OpI) (D : DM Int) (n : Nat) (h : Small n D) : ∀ i, i ≤ ops.length → Small (n + i) (runD D (ops.take i))
  | 0, _ => h
  | i + 1, hi => by rw [runD_take (by omega)]; exact (small_more ops D n h i (by omega)).do _
set_option maxHeartbeats 4000000 in
set_option maxRecDepth 100000 in
theorem apart_any {V : World → Prop} {B : Nat} {Dq : World → Nat → (Nat → Prop) → DM Int → Prop} (M : MethI V B Dq) (p : Option Addr) (ops : List OpI) (cp : Nat) (p' : Option Addr) (more : List OpI) (cp' : Nat) (w : World) (hV : V w) (hB : B ≤ w.heap.size) (hO : OpsI w p ops) (hN : ∀ o ∈ ops, o.name.length ≤ 140737488351232) (hn : ops.length ≤ 9223372036854775807) (hO' : OpsI w p' more) (hN' : ∀ o ∈ more, o.name.length ≤ 140737488351232) (hn' : more.length ≤ 9223372036854775807) :
    Calls Tryd.prog 5 #[.slice p ops.length cp, .slice p' more.length cp'] w fun e w' => e = .returned (.bool true) ∧ Below w.heap.size w w' := by
  have HM := hid M
  have HV := hid hV
  have HNL := hid hN'
  clear hN'
  by_cases hbig : 600 < ops.length
  · have HG := hid (begun_big M p ops.length cp w hV hB hbig hn)
    clear M hV hN hO hO'
    go_enter Tryd.func5, Tryd.ntmps5
    go_wp2_with fail
    refine HG.out.mono ?_; rintro e w1 ⟨rfl, hh⟩
    have HB1 := hid (hh.out.trans ((below_alloc w1 (.cells #[.slice none 0 0, .int .i64 4, .int .i64 0] 26)).mono hh.out.size))
    clear hh
    go_wp2_with fail
    refine (alive_any HM.out _ (HM.out.envB HV.out hB hB HB1.out) (Nat.le_trans hB HB1.out.size)).mono ?_; rintro e w2 ⟨rfl, hh⟩
    have HB2 := hid (HB1.out.trans (hh.out.mono HB1.out.size))
    clear hh
    go_wp2_with fail
    go_ret
    exact ⟨rfl, HB2.out⟩
  · have HG := hid (begun_any M p ops cp w hV hB hO hN (by omega))
    have HSm := hid (small_run ops ops.length (Nat.le_refl _))
    rw [List.take_length] at HSm
    generalize runD newD ops = D at *
    by_cases hbig' : 600 < more.length
    · have hz : (600 : Int) < (more.length : Int) := by omega
      clear M hV hN hO hO'
      go_enter Tryd.func5, Tryd.ntmps5
      go_wp2_with fail
      refine HG.out.mono ?_; rintro e w1 ⟨b, q, d, rfl, hh⟩
      obtain ⟨O, hO⟩ := hh.out
      have HB1 := hid (hO.2.2.2.trans ((below_alloc w1 (.cells #[.slice q D.L.length d, .int .i64 D.rooms, .int .i64 D.left] 26)).mono hO.2.2.2.size))
      clear hh hO
      go_wp2_with fail
      refine (alive_any HM.out _ (HM.out.envB HV.out hB hB HB1.out) (Nat.le_trans hB HB1.out.size)).mono ?_; rintro e w2 ⟨rfl, hh⟩
      have HB2 := hid (HB1.out.trans (hh.out.mono HB1.out.size))
      clear hh
      go_wp2_with fail
      go_ret
      exact ⟨rfl, HB2.out⟩
    · have hz : ¬ (600 : Int) < (more.length : Int) := by omega
      have HMo := hid hO'
      have HSr := hid (small_more more D ops.length HSm.out)
      clear M hV hN hO hO'
      go_enter Tryd.func5, Tryd.ntmps5
      go_wp2_with fail
      refine HG.out.mono ?_; rintro e w1 ⟨b, q, d, rfl, hh⟩
      obtain ⟨O, hO⟩ := hh.out
      have HA1 := hid (below_alloc w1 (.cells #[.slice q D.L.length d, .int .i64 D.rooms, .int .i64 D.left] 26))
      have HX1 := hid (heap_alloc_new w1 (.cells #[.slice q D.L.length d, .int .i64 D.rooms, .int .i64 D.left] 26))
      have HD1 := hid (HM.out.below hO.1 HA1.out)
      have HI1 := hid (hO.2.2.1.fresh.below HA1.out)
      have HB1 := hid (hO.2.2.2.trans (HA1.out.mono hO.2.2.2.size))
      have HOl := hid (fun k hk => And.intro (hO.2.1 k hk) (HM.out.lt hO.1 k hk))
      have hw1s : w.heap.size ≤ w1.heap.size := hO.2.2.2.size
      clear hh hO
      go_wp2_with fail
      refine (HM.out.clone b O D _ HD1.out (HSm.out.mono (by omega))).mono ?_
      rintro e w2 ⟨b2, rfl, hh⟩
      obtain ⟨O2, hO2⟩ := hh.out
      have e1 : (w1.alloc (.cells #[.slice q D.L.length d, .int .i64 D.rooms, .int .i64 D.left] 26)).heap.size = w1.heap.size + 1 := by simp
      have hs2 : w1.heap.size + 1 ≤ w2.heap.size := by have := hO2.2.2.size; omega
      have HA2 := hid (below_alloc w2 (.cells #[.slice q D.L.length d, .int .i64 D.rooms, .int .i64 D.left] 26))
      have hrow2 := (hO2.2.2.block w1.heap.size (by omega)).trans HX1.out
      obtain ⟨⟨y0, y1, y2⟩, -⟩ := rd_facts hrow2
      have H63 := hid ((HA2.out.block w1.heap.size (by omega)).trans hrow2)
      have H93 := hid (heap_alloc_new w2 (.cells #[.slice q D.L.length d, .int .i64 D.rooms, .int .i64 D.left] 26))
      have HD3 := hid (HM.out.below (HM.out.below HD1.out hO2.2.2) HA2.out)
      have HE3 := hid (HM.out.below hO2.1 HA2.out)
      have HI3 := hid ((HI1.out.below hO2.2.2).below HA2.out)
      have HK3 := hid ((HB1.out.trans (hO2.2.2.mono HB1.out.size)).trans (HA2.out.mono (Nat.le_trans HB1.out.size hO2.2.2.size)))
      have HO2l := hid (fun k hk => And.intro (hO2.2.1 k hk) (HM.out.lt hO2.1 k hk))
      rw [e1] at HO2l
      have HZ3 : Hid ((w2.alloc (.cells #[.slice q D.L.length d, .int .i64 D.rooms, .int .i64 D.left] 26)).heap.size = w2.heap.size + 1) := by simp [Hid]
      clear hh hO2 hrow2 e1
      go_wp2_with fail
      clear y0 y1 y2
      generalize w2.alloc (.cells #[.slice q D.L.length d, .int .i64 D.rooms, .int .i64 D.left] 26) = W3 at *
      go_loopw [11, 12, 13, 47] (fun _ _ _ v47 W => ∃ (i : Nat) (q' : Option Addr) (d' : Nat), v47 = .int .i64 i ∧ i ≤ more.length ∧ Hid (W.heap[w2.heap.size]? = some (.cells #[.slice q' (runD D (more.take i)).L.length d', .int .i64 (runD D (more.take i)).rooms, .int .i64 (runD D (more.take i)).left] 26 (0, 0))) ∧
        Hid (∃ O2', Dq W b2 O2' (runD D (more.take i)) ∧ (∀ k, O2' k → w1.heap.size + 1 ≤ k ∧ k ≠ w2.heap.size) ∧ It (fun j => ¬ O2' j ∧ (j ≠ w2.heap.size ∧ j ≠ w1.heap.size ∧ ¬ O j)) W (.slice q' (runD D (more.take i)).L.length d') (runD D (more.take i)).L) ∧ Hid (Below (w1.heap.size + 1) W3 W)) (fun _ _ _ v47 _ => more.length - (intOf v47).toNat)
      case atStart => exact ⟨0, q, d, rfl, Nat.zero_le _, H93.out, ⟨O2, HE3.out, fun k hk => ⟨(HO2l.out k hk).1, by have := (HO2l.out k hk).2; omega⟩, HI3.out.mono (fun j hj => ⟨fun h => by have := (HO2l.out j h).1; have := hj.2; omega, by have := hj.2; omega, by have := hj.2; omega, hj.1⟩)⟩, Below.refl _ _⟩
      case round =>
        obtain ⟨i, q', d', rfl, hi, HRr, HDD, HW⟩ := hrel
        obtain ⟨O2', hDO⟩ := HDD.out
        have HDO := hid hDO
        clear hDO HDD
        have hs3 : w2.heap.size + 1 ≤ wr.heap.size := by have := HW.out.size; have := HZ3.out; omega
        by_cases hlt : i < more.length
        · have hlz : (i : Int) < (more.length : Int) := by omega
          obtain ⟨g, o, rfl, hcs⟩ := HMo.out (fun e => by rw [e] at hlt; simp at hlt)
          have hgl : g < w.heap.size := block_lt_of_cell (hcs i hlt).1
          have hgb := (HW.out.block g (by have := HB1.out.size; simp at this; omega)).trans (HK3.out.block g hgl)
          have x0 := cell_turn (hcs i hlt).1 hgb
          have x1 := cell_turn (hcs i hlt).2.1 hgb
          have x2 := cell_turn (hcs i hlt).2.2 hgb
          have HNx := hid (runD_take (D := D) hlt)
          have HSi := hid ((HSr.out i (by omega)).mono (show ops.length + i ≤ 100000 by omega))
          obtain ⟨⟨y0, y1, y2⟩, -⟩ := rd_facts HRr.out
          have HNi := hid (HNL.out _ (List.getElem_mem hlt))
          generalize more[i] = op at *
          generalize runD D (more.take i) = Di at *
          clear hcs hgb
          have HB5 := hid (below_alloc wr (.cells #[.int .i64 op.kind, .int .i64 op.v, txt op.name] 35))
          have HRr1 := hid ((heap_alloc_old wr (.cells #[.int .i64 op.kind, .int .i64 op.v, txt op.name] 35) (show w2.heap.size < wr.heap.size by omega)).trans HRr.out)
          go_wp2_with (refine wpList_load_row rfl 26 _ rfl w2.heap.size rfl 26 _ (0, 0) _ HRr1.out Tryd.underlying26 rfl (infoRD _ _ _) (Hid.out ?_))
          refine hid ?_
          go_wp2_with fail
          refine (does_any HM.out b2 O2' (fun j => j ≠ w2.heap.size ∧ j ≠ w1.heap.size ∧ ¬ O j) Di _ op _ (HM.out.below HDO.out.1 HB5.out) (HDO.out.2.2.below HB5.out) (fun j hj => by simp at hj; exact ⟨by omega, by omega, fun h => by have := (HOl.out j h).2; omega⟩) HSi.out HNi.out).mono ?_
          rintro e w5 ⟨q5, d5, rfl, hh⟩
          obtain ⟨O5, hQ⟩ := hh.out
          have hRF := round_facts HM.out (nr := w2.heap.size) (by omega) (by omega) (fun h => (HDO.out.2.1 _ h).2 rfl) HRr.out (fun j hj => hj.1) hQ
          have hr5 := (hQ.2.2.2.block w2.heap.size (by simp; omega) (fun h => (HDO.out.2.1 _ h).2 rfl)).trans HRr1.out
          have hs5 := hQ.2.2.2.size
          have HRF := hid hRF
          rw [← HNx.out] at HRF ⊢
          generalize hD' : runD D (more.take (i + 1)) = D' at *
          have HD' := hid hD'
          clear hD'
          obtain ⟨⟨m0, m1, m2⟩, s0, s1, s2⟩ := rd_facts ((heap_alloc_old w5 (.cells #[.slice q5 D'.L.length d5, .int .i64 D'.rooms, .int .i64 D'.left] 26) (show w2.heap.size < w5.heap.size by simp at hs5; omega)).trans hr5)
          clear hh hQ hRF hr5 hs5 y0 y1 y2 x0 x1 x2
          go_wp2_with fail
          refine ⟨⟨i + 1, q5, d5, by go_num, by omega, ?_, ⟨O5, ?_, ?_, ?_⟩, ?_⟩, by simp [intOf]; omega⟩
          · rw [HD'.out]; exact HRF.out.1
          · rw [HD'.out]; exact HRF.out.2.1
          · intro k hk
            rcases HRF.out.2.2.2.1 k hk with g' | g'
            · exact HDO.out.2.1 k g'
            · exact ⟨by omega, by omega⟩
          · rw [HD'.out]; exact HRF.out.2.2.1
          · exact Below.tail HW.out HRF.out.2.2.2.2.2 (fun j hj => ⟨fun h => by have := (HDO.out.2.1 j h).1; omega, by omega⟩) (by omega)
        · have et : more.take i = more := List.take_of_length_le (by omega)
          rw [et] at HRr HDO
          clear et
          have HDw := hid (HM.out.turn HD3.out (fun k hk => HW.out.block k (by rcases hk with hk | hk; omega; have := (HOl.out k hk).2; omega)) (by have := HZ3.out; omega))
          have H6w := hid ((HW.out.block w1.heap.size (by omega)).trans H63.out)
          obtain ⟨⟨y0, y1, y2⟩, -⟩ := rd_facts H6w.out
          have HIw := hid (HI3.out.keep (Q := fun k => ¬ O k ∧ k < w1.heap.size) (P := fun k => ¬ O k ∧ k < w1.heap.size) ⟨HW.out.os, HW.out.tape, HW.out.output, HW.out.size, fun k _ hk => HW.out.block k (by have := hk.2; omega)⟩ (fun _ h => h))
          have HKw : Hid (Below w.heap.size w wr) := HK3.out.trans (HW.out.mono (by have := HB1.out.size; simp at this; omega))
          have HSD := hid (HSm.out.mono (show ops.length ≤ 100000 by omega))
          have HSf : Hid (Small 100000 (runD D more)) := by
            have := HSr.out more.length (Nat.le_refl _)
            rw [List.take_length] at this
            exact this.mono (by omega)
          obtain ⟨Df, hDf⟩ : ∃ Df, runD D more = Df := ⟨_, rfl⟩
          have HRun := hid hDf
          rw [hDf] at HRr HDO HSf
          have HDO2 := hid HDO.out
          clear hDf
          go_wp2_with fail
          refine (stands_any HM.out b O D _ wr HDw.out (HIw.out.mono (fun _ h => h.1)) HSD.out).mono ?_
          rintro e w5 ⟨rfl, hh⟩
          have hs5 : wr.heap.size ≤ w5.heap.size := hh.out.size
          have H65 := hid ((hh.out.block w1.heap.size (by omega)).trans H6w.out)
          have H95 := hid ((hh.out.block w2.heap.size (by omega)).trans HRr.out)
          have HD5 := hid (HM.out.below HDw.out hh.out)
          have HE5 := hid (HM.out.below HDO.out.1 hh.out)
          have HI5 := hid (HIw.out.below hh.out)
          have HS5 := hid (HDO.out.2.2.fresh.below hh.out)
          have HE5l := hid (HM.out.lt HDO.out.1)
          have HK5 := hid (HKw.out.trans (hh.out.mono HKw.out.size))
          clear hh y0 y1 y2
          go_wp2_with fail
          go_loopw [16, 17, 18, 67] (fun _ _ _ v67 W => ∃ (i : Nat) (q6 : Option Addr) (d6 : Nat), v67 = .int .i64 i ∧ i ≤ more.length ∧ Hid (W.heap[w1.heap.size]? = some (.cells #[.slice q6 (runD D (more.take i)).L.length d6, .int .i64 (runD D (more.take i)).rooms, .int .i64 (runD D (more.take i)).left] 26 (0, 0))) ∧
            Hid (∃ O6, Dq W b O6 (runD D (more.take i)) ∧ (∀ k, O6 k → O k ∨ w5.heap.size ≤ k) ∧ It (fun j => ¬ O6 j ∧ j ≠ w1.heap.size) W (.slice q6 (runD D (more.take i)).L.length d6) (runD D (more.take i)).L) ∧ Hid (Keep (fun k => ¬ O k ∧ k ≠ w1.heap.size ∧ k < w5.heap.size) w5 W)) (fun _ _ _ v67 _ => more.length - (intOf v67).toNat)
          case atStart => exact ⟨0, q, d, rfl, Nat.zero_le _, H65.out, ⟨O, HD5.out, fun k hk => .inl hk, HI5.out.mono (fun j hj => ⟨hj.1, by have := hj.2; omega⟩)⟩, Keep.refl _ _⟩
          case round =>
            obtain ⟨i, q6, d6, rfl, hi, HRr, HDD, HW⟩ := hrel
            obtain ⟨O6, hDO⟩ := HDD.out
            have HDO := hid hDO
            clear hDO HDD
            have hs6 := HW.out.size
            have HNo : Hid (¬ O6 w1.heap.size) := fun h => by
              rcases HDO.out.2.1 _ h with g' | g'
              · have := (HOl.out _ g').2; omega
              · omega
            by_cases hlt : i < more.length
            · have hlz : (i : Int) < (more.length : Int) := by omega
              obtain ⟨g, o, rfl, hcs⟩ := HMo.out (fun e => by rw [e] at hlt; simp at hlt)
              have hgl : g < w.heap.size := block_lt_of_cell (hcs i hlt).1
              have hgb := (HW.out.block g (by omega) ⟨fun h => by have := (HOl.out _ h).1; omega, by omega, by omega⟩).trans (HK5.out.block g hgl)
              have x0 := cell_turn (hcs i hlt).1 hgb
              have x1 := cell_turn (hcs i hlt).2.1 hgb
              have x2 := cell_turn (hcs i hlt).2.2 hgb
              have HNx := hid (runD_take (D := D) hlt)
              have HSi := hid ((HSr.out i (by omega)).mono (show ops.length + i ≤ 100000 by omega))
              obtain ⟨⟨y0, y1, y2⟩, -⟩ := rd_facts HRr.out
              have HNi := hid (HNL.out _ (List.getElem_mem hlt))
              generalize more[i] = op at *
              generalize runD D (more.take i) = Di at *
              clear hcs hgb
              have HB5 := hid (below_alloc wr (.cells #[.int .i64 op.kind, .int .i64 op.v, txt op.name] 35))
              have HRr1 := hid ((heap_alloc_old wr (.cells #[.int .i64 op.kind, .int .i64 op.v, txt op.name] 35) (show w1.heap.size < wr.heap.size by omega)).trans HRr.out)
              go_wp2_with (refine wpList_load_row rfl 26 _ rfl w1.heap.size rfl 26 _ (0, 0) _ HRr1.out Tryd.underlying26 rfl (infoRD _ _ _) (Hid.out ?_))
              refine hid ?_
              go_wp2_with fail
              refine (does_any HM.out b O6 (fun j => j ≠ w1.heap.size) Di _ op _ (HM.out.below HDO.out.1 HB5.out) (HDO.out.2.2.below HB5.out) (fun j hj => by simp at hj; omega) HSi.out HNi.out).mono ?_
              rintro e w7 ⟨q7, d7, rfl, hh⟩
              obtain ⟨O7, hQ⟩ := hh.out
              have hRF := round_facts HM.out (nr := w1.heap.size) (by omega) (by omega) HNo.out HRr.out (fun j hj => hj) hQ
              have hr7 := (hQ.2.2.2.block w1.heap.size (by simp; omega) HNo.out).trans HRr1.out
              have hs7 := hQ.2.2.2.size
              have HRF := hid hRF
              rw [← HNx.out] at HRF ⊢
              generalize hD' : runD D (more.take (i + 1)) = D' at *
              have HD' := hid hD'
              clear hD'
              obtain ⟨⟨m0, m1, m2⟩, s0, s1, s2⟩ := rd_facts ((heap_alloc_old w7 (.cells #[.slice q7 D'.L.length d7, .int .i64 D'.rooms, .int .i64 D'.left] 26) (show w1.heap.size < w7.heap.size by simp at hs7; omega)).trans hr7)
              clear hh hQ hRF hr7 hs7 y0 y1 y2 x0 x1 x2
              go_wp2_with fail
              refine ⟨⟨i + 1, q7, d7, by go_num, by omega, ?_, ⟨O7, ?_, ?_, ?_⟩, ?_⟩, by simp [intOf]; omega⟩
              · rw [HD'.out]; exact HRF.out.1
              · rw [HD'.out]; exact HRF.out.2.1
              · intro k hk
                rcases HRF.out.2.2.2.1 k hk with g' | g'
                · exact HDO.out.2.1 k g'
                · exact .inr (by omega)
              · rw [HD'.out]; exact HRF.out.2.2.1
              · exact HW.out.trans (HRF.out.2.2.2.2.2.mono (fun k hk => ⟨fun h => by
                  rcases HDO.out.2.1 _ h with g' | g'
                  · exact hk.1 g'
                  · have := hk.2.2; omega, hk.2.1⟩))
            · have et : more.take i = more := List.take_of_length_le (by omega)
              rw [et, HRun.out] at HRr HDO
              clear et
              have HSW : Hid (It (fun j => ¬ O2' j) wr (.slice q' Df.L.length d') Df.L) := HS5.out.keep (P := fun j => (¬ O2' j ∧ (j ≠ w2.heap.size ∧ j ≠ w1.heap.size ∧ ¬ O j)) ∧ j < _) (Q := fun j => ¬ O2' j) (HW.out.mono (fun k hk => ⟨hk.1.2.2.2, hk.1.2.2.1, by have := hk.2; omega⟩)) (fun _ h => h.1.1)
              have HEW := hid (HM.out.turn HE5.out (fun k hk => hk.elim (fun hk => HW.out.block k (by omega) ⟨fun h => by have := (HOl.out _ h).1; omega, by omega, by omega⟩) fun hk => HW.out.block k (by have := HE5l.out k hk; omega) ⟨fun h => by have := (HOl.out _ h).2; have := (HDO2.out.2.1 k hk).1; omega, by have := (HDO2.out.2.1 k hk).1; omega, by have := HE5l.out k hk; omega⟩) hs6)
              have H9W := hid ((HW.out.block w2.heap.size (by omega) ⟨fun h => by have := (HOl.out _ h).2; omega, by omega, by omega⟩).trans H95.out)
              have HBW : Hid (Below w.heap.size w wr) := Below.tail HK5.out HW.out (fun j hj => ⟨fun h => by have := (HOl.out _ h).1; omega, by omega, by omega⟩) HK5.out.size
              go_wp2_with fail
              refine (alive_any HM.out _ (HM.out.envB HV.out hB hB HBW.out) (Nat.le_trans hB HBW.out.size)).mono ?_; rintro e w8 ⟨rfl, hh⟩
              have HB8 := hid (HBW.out.trans (hh.out.mono HBW.out.size))
              have HE8 := hid (HM.out.below HEW.out hh.out)
              have HD8 := hid (HM.out.below HDO.out.1 hh.out)
              have HS8 := hid (HSW.out.below hh.out)
              have HI8 := hid (HDO.out.2.2.below hh.out)
              have H98 := hid ((hh.out.block w2.heap.size (by omega)).trans H9W.out)
              have H68 := hid ((hh.out.block w1.heap.size (by omega)).trans HRr.out)
              have hs8 := hh.out.size
              obtain ⟨⟨y0, y1, y2⟩, -⟩ := rd_facts H98.out
              clear hh
              go_wp2_with fail
              refine (stands_any HM.out b2 O2' Df _ w8 HE8.out HS8.out HSf.out).mono ?_; rintro e w9 ⟨rfl, hh⟩
              have HB9 := hid (HB8.out.trans (hh.out.mono HB8.out.size))
              have HD9 := hid (HM.out.below HD8.out hh.out)
              have HI9 := hid (HI8.out.below hh.out)
              obtain ⟨⟨k0, k1, k2⟩, -⟩ := rd_facts ((hh.out.block w1.heap.size (by omega)).trans H68.out)
              clear hh y0 y1 y2
              go_wp2_with fail
              refine (stands_any HM.out b O6 Df _ w9 HD9.out (HI9.out.mono (fun _ h => h.1)) HSf.out).mono ?_; rintro e w10 ⟨rfl, hh⟩
              have HB10 := hid (HB9.out.trans (hh.out.mono HB9.out.size))
              clear hh
              go_wp2_with fail
              go_ret
              exact ⟨rfl, HB10.out⟩

end Go.Proofs.YtphegggekcjenaaDoor
