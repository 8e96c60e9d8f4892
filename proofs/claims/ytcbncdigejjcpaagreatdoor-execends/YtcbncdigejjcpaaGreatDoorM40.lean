/- KP6. -/
import Derived.Test.YtcbncdigejjcpaaGreatDoorM34
namespace Go.Proofs.YtcbncdigejjcpaaGreatDoor
open Go.RowKit

set_option maxHeartbeats 8000000 in
set_option maxRecDepth 100000 in
theorem kput_p6 {B : Nat} {w : World} {b d mb : Nat} {O A Od : Nat → Prop} {D : Dc.DM E8} {f : Int → Row} {room mem now soon : Int} {L : List EP} (h : SpC B w b d mb O A Od D f room mem now soon) (hL : SpL D f mem L) (x : E8) (hx : Arg8 x) (hV : Lies (Off O) w x)
    (h1 : ¬ 1024 < x.key.length) (h2 : ¬ x.ends < 0) (h3 : ¬ 1099511627776 < x.ends) (h4 : ¬ (0 < x.ends ∧ x.ends ≤ now)) (h5 : rightB x.m = true) (hs : (Dc.getL x.key D.L).isSome = false) (hn : ¬ 4096 ≤ L.length) (hr : ¬ room < mem + (tk x : Int)) : PutSp B w b d mb O A L room now soon x := by
  have hab : ¬ argBadP (pr8 x) now := by unfold argBadP; dsimp only; omega
  obtain ⟨g1, g2, g2c, gk, g3, g4⟩ := h.at hL x.key
  have HG := hid (fun W (h : Dc.DE.Dq B W d Od D) => Dc.DE.dq_get d Od D x.key W h hL.small2 hx.key)
  obtain ⟨y, hy⟩ : ∃ y, y = (Dc.getL x.key D.L).getD Dc.DE.e80 := ⟨_, rfl⟩
  obtain ⟨is, his⟩ : ∃ is, is = (Dc.getL x.key D.L).isSome := ⟨_, rfl⟩
  rw [← his] at hs
  rw [← hy, ← his] at HG
  rw [← hy] at g1 g2 g2c gk g3
  rw [← his] at g4
  have h0 := h.below (below_alloc w (eob x))
  have hly : Lies (Off O) w y := by
    rw [hy]
    cases hd : Dc.getL x.key D.L with
    | none => exact ⟨VI.zero w, fun h => absurd rfl h, fun h => absurd rfl h⟩
    | some z =>
      have hm : (x.key, z) ∈ D.L := by
        unfold Dc.getL at hd
        obtain ⟨p, hp, rfl⟩ := Option.map_eq_some_iff.1 hd
        have k1 := List.find?_some hp
        have k2 := List.mem_of_find?_eq_some hp
        simp only [beq_iff_eq] at k1
        rw [← k1]
        exact k2
      exact (h.lies _ hm).keep (Keep.refl _ _) (fun _ h => h.2)
  have HP0 : Hid (PutAt B w b d mb O A Od D f room mem now soon x y (w.alloc (eob x))) := ⟨h0, ent_new w x, Stp.below (below_alloc w (eob x)) O A, fun k hk => (h.lt k hk).2, hV.below (below_alloc w (eob x)), hly.below (below_alloc w (eob x))⟩
  obtain ⟨a0, a1, a2, a3, a4, a5⟩ := h0.facts
  obtain ⟨c0, c1, c2, c3, c4, c5, c6, c7⟩ := ent_facts (ent_new w x)
  have hz : ¬ (1024 : Int) < (x.key.length : Int) := by omega
  have HE := hid (kended_any h0 x)
  rw [decide_eq_false h4] at HE
  have HR : Hid (∀ W, VI W x.m x.pp x.pc x.ip x.ic → Calls Tryz.prog 190 #[vv x.m x.pp x.pc x.ip x.ic] W fun e w' => e = .returned (.bool (rightB x.m)) ∧ Hid (Below W.heap.size W w')) := fun W h => pright_any x.m x.pp x.pc x.ip x.ic W hx.came h
  rw [h5] at HR
  have HT := hid (fun W (ht : Tab W) (h : VI W x.m x.pp x.pc x.ip x.ic) => ktakes_any x W ht hx.came hx.key h)
  have HTy := hid (fun W (ht : Tab W) (h : VI W y.m y.pp y.pc y.ip y.ic) => ktakes_any y W ht g2c (by omega) h)
  have hmb0 := hL.memB.1
  have hmb1 := hL.memB.2
  have htx := tkE_le (x := pr8 x) (show x.key.length ≤ 1024 by omega)
  rw [show tkE (pr8 x) = tk x from rfl] at htx
  have hty := tkE_le (x := pr8 y) gk
  rw [show tkE (pr8 y) = tk y from rfl] at hty
  have htxz : (tk x : Int) ≤ 1001042 := by omega
  have htx0 : (0 : Int) ≤ (tk x : Int) := by omega
  have htyz : (tk y : Int) ≤ 1001042 := by omega
  have hty0 : (0 : Int) ≤ (tk y : Int) := by omega
  have HLm := hid hL
  have HXa := hid hx
  have hw1 : IntKind.i64.wrap (mem + (tk x : Int)) = mem + (tk x : Int) := by rw [IntKind.wrap_i64]; omega
  have HY := hid hy
  have HIs := hid his
  have HG3' := hid g3
  have HG4 := hid g4
  clear htx hty h h0 hV g1 g2 g2c h4 h1 hy his g3 g4 hly
  have HSv := hid hs
  clear hs
  obtain ⟨E, hE⟩ : ∃ E, E = putEL L room now (pr8 x) := ⟨_, rfl⟩
  unfold PutSp
  rw [← hE]
  have HEE := hid hE
  have HPost : Hid (∀ w', (∃ O' A' Od' D' f' mem' soon', SpC B w' b d mb O' A' Od' D' f' room mem' now soon' ∧ SpL D' f' mem' (putLL L room now (pr8 x)) ∧ (soon' = soon ∨ soon' = (if 0 < x.ends then min soon x.ends else soon)) ∧ (putEL L room now (pr8 x) = 0 → soon' = (if 0 < x.ends then min soon x.ends else soon)) ∧ Stp w w' O O' A A') → PutPost B w b d mb O A L room now soon x w') := fun _ h => h
  clear hE
  go_enter Tryz.func186, Tryz.ntmps186
  go_wp2_with fail
  refine HE.out.mono ?_; rintro e w1 ⟨rfl, hh⟩
  have HP1 := hid (HP0.out.go hh.out)
  obtain ⟨d0, d1, d2, d3, d4, d5, d6, d7⟩ := ent_facts HP1.out.blk
  have HR1 := hid (HR.out w1 HP1.out.lx.vi)
  clear hh c0 c1 c2 c3 c4 c5 c6 c7 a0 a1 a2 a3 a4 a5
  go_wp2_with fail
  refine HR1.out.mono ?_; rintro e w2 ⟨rfl, hh⟩
  have HP2 := hid (HP1.out.go hh.out)
  have HT2 := hid (HT.out w2.drew HP2.out.drew.sp.tab HP2.out.drew.lx.vi)
  obtain ⟨e0, e1, e2, e3, e4, e5, e6, e7⟩ := ent_facts HP2.out.blk
  obtain ⟨a0, a1, a2, a3, a4, a5⟩ := HP2.out.sp.facts
  clear hh d0 d1 d2 d3 d4 d5 d6 d7
  go_upto_region 5 with fail
  go_cut [5] (fun c5 wx => c5 = .int .i64 (mem + (tk x : Int)) ∧ Hid (PutAt B w b d mb O A Od D f room mem now soon x y wx))
  case first =>
    go_region_law (first
      | (go_simp; go_at_call 58; refine HT2.out.mono ?_; rintro e w3 ⟨rfl, hh⟩; have HP3 := hid (HP2.out.drew.go hh.out); obtain ⟨b0, b1, b2, b3, b4, b5⟩ := HP3.out.sp.facts; clear hh))
    all_goals (go_wp2_with fail; go_meet; exact ⟨rfl, HP3⟩)
  case rest =>
  obtain ⟨rfl, HP3⟩ := hcut
  clear e0 e1 e2 e3 e4 e5 e6 e7 a0 a1 a2 a3 a4 a5 HT2 HR1
  obtain ⟨e0, e1, e2, e3, e4, e5, e6, e7⟩ := ent_facts HP3.out.blk
  obtain ⟨a0, a1, a2, a3, a4, a5⟩ := HP3.out.sp.facts
  have hltc := HP3.out.lt
  have hblc := HP3.out.sp.blt.1
  have HG3 := hid (HG.out wc.drew HP3.out.drew.sp.dq)
  have HBz := hid (below_alloc wc (.cells #[.string ⟨#[]⟩, .int .i64 0, .string ⟨#[]⟩, .slice none 0 0, .slice none 0 0, .int .i64 0, .int .i64 0, .int .i64 0] 51)).drew
  have HGz := hid (HG.out (wc.alloc (.cells #[.string ⟨#[]⟩, .int .i64 0, .string ⟨#[]⟩, .slice none 0 0, .slice none 0 0, .int .i64 0, .int .i64 0, .int .i64 0] 51)).drew (HP3.out.go HBz.out).sp.dq)
  have HZz : Hid ((wc.alloc (.cells #[.string ⟨#[]⟩, .int .i64 0, .string ⟨#[]⟩, .slice none 0 0, .slice none 0 0, .int .i64 0, .int .i64 0, .int .i64 0] 51)).drew.heap[wc.heap.size]? = some (.cells #[.string ⟨#[]⟩, .int .i64 0, .string ⟨#[]⟩, .slice none 0 0, .slice none 0 0, .int .i64 0, .int .i64 0, .int .i64 0] 51 (0, 0))) := heap_alloc_new wc _
  have HZs : Hid ((wc.alloc (.cells #[.string ⟨#[]⟩, .int .i64 0, .string ⟨#[]⟩, .slice none 0 0, .slice none 0 0, .int .i64 0, .int .i64 0, .int .i64 0] 51)).drew.heap.size = wc.heap.size + 1) := by unfold Hid; simp [World.drew]
  go_upto_region 6 with fail
  go_cut [6, 7] (fun c6 c7 wx => ∃ F, c6 = .pointer (some ⟨F, 0, none⟩) ∧ c7 = .bool is ∧ Hid (PutAt B w b d mb O A Od D f room mem now soon x y wx) ∧ Hid (wx.heap[F]? = some (.cells y.cells 51 (0, 0))))
  case first =>
    go_region_law (first
      | (go_simp; go_at_call 32; (with_reducible refine HG3.out.mono ?_); rintro e w4 ⟨rfl, hh⟩; have HB4 := hid ((Below.refl wc.heap.size wc).drew.trans hh.out); have HP4 := hid (HP3.out.go HB4.out); obtain ⟨b0, b1, b2, b3, b4, b5⟩ := HP4.out.sp.facts; obtain ⟨f0, f1, f2, f3, f4, f5, f6, f7⟩ := ent_facts HP4.out.blk; have hlt4 := HB4.out.size; clear hh)
      | (go_simp; go_at_call 32; (with_reducible refine HGz.out.mono ?_); rintro e w4 ⟨rfl, hh⟩; have HB4 := hid (HBz.out.trans (hh.out.mono (show wc.heap.size ≤ _ by rw [HZs.out]; omega))); have HF4 := hid ((hh.out.block wc.heap.size (by rw [HZs.out]; omega)).trans HZz.out); obtain ⟨z0, z1, z2, z3, z4, z5, z6, z7⟩ := ent_facts HF4.out; obtain ⟨t0, t1, t2, t3, t4, t5, t6, t7⟩ := ent_frozen HF4.out; clear hh))
    all_goals (go_wp2_with fail; go_meet; first | exact ⟨_, rfl, rfl, HP4.out.go (below_alloc w4 (eob y)), ent_new w4 y⟩ | exact ⟨_, rfl, rfl, HP3.out.go ((set8_onlyB w4 wc.heap.size (txt y.key) (.int .i64 y.m.kind) (txt y.m.text) (.slice y.pp y.m.pairs.length y.pc) (.slice y.ip y.m.items.length y.ic) (.int .i64 y.m.px) (.int .i64 y.m.py) (.int .i64 y.ends)).below HB4.out (Nat.le_refl _)), Dc.DE.set8_same _ _ _ _ _ _ _ _ HF4.out⟩)
  case rest =>
  obtain ⟨F, rfl, rfl, HP4, HF⟩ := hcut
  clear e0 e1 e2 e3 e4 e5 e6 e7 a0 a1 a2 a3 a4 a5 HG3 HBz HGz HZz HZs hltc hblc HP3
  obtain ⟨e0, e1, e2, e3, e4, e5, e6, e7⟩ := ent_facts HP4.out.blk
  obtain ⟨a0, a1, a2, a3, a4, a5⟩ := HP4.out.sp.facts
  obtain ⟨y0, y1, y2, y3, y4, y5, y6, y7⟩ := ent_facts HF.out
  have hltc := HP4.out.lt
  have hblc := HP4.out.sp.blt.1
  have HTy4 := hid (HTy.out wc HP4.out.sp.tab HP4.out.ly.vi)
  have HTy5 := hid (HTy.out wc.drew HP4.out.drew.sp.tab HP4.out.drew.ly.vi)
  have HGd : Hid (x.key.length ≤ 1024 ∧ RtV x.m ∧ 0 ≤ x.ends ∧ x.ends ≤ 1099511627776) := ⟨by omega, rightB_iff.1 h5, by omega, by omega⟩
  have hab' := hab
  have HAb := hid hab
  have HRt := hid h5
  clear hab hab' h5
  have hsv := HSv.out
  subst hsv
  have hgx : getL x.key L = none := by
    cases e : getL x.key L with
    | none => rfl
    | some z => have := HG4.out; rw [e] at this; cases this
  have hde := delL_none hgx
  have hmm := HLm.out.mem
  have HDl := hid HLm.out.dlen
  have HLL := hid HLm.out.len
  have HMm : Hid (mem + (tk x : Int) = (memL (insR (pr8 x) (delL x.key L)) : Int)) := by unfold Hid; rw [memL_ins, hde, show tkE (pr8 x) = tk x from rfl]; omega
  have hU : ((memL (delL (pr8 x).1 L) + tkE (pr8 x) : Nat) : Int) = mem + (tk x : Int) := by rw [show tkE (pr8 x) = tk x from rfl, show (pr8 x).1 = x.key from rfl, hde]; omega
  have hUn : memL L < memL (delL (pr8 x).1 L) + tkE (pr8 x) ↔ mem < mem + (tk x : Int) := by rw [← hU]; omega
  have HU := hid hU
  have HUn := hid hUn
  have HSm := hid (show (getL (pr8 x).1 L).isSome = false by show (getL x.key L).isSome = false; rw [hgx]; rfl)
  have HLe := hid (show (insR (pr8 x) (delL x.key L)).length = L.length + 1 by rw [insR_len, hde])
  have HSl : Hid (∀ n, updF f (slotOf x.key) (insAll (f (slotOf x.key)) [x.key]) n = slotL n (insR (pr8 x) (delL x.key L))) := fun n => by
    by_cases e : n = (slotOf x.key : Int)
    · rw [e, updF_same, HLm.out.slots]
      exact (slotL_put_new HLm.out.srtL (x := pr8 x) hgx).symm
    · rw [updF_other _ _ _ e, HLm.out.slots]
      exact (slotL_put_other HLm.out.srtL (x := pr8 x) hgx (fun e2 => e e2.symm)).symm
  have HFl : Hid ((f (slotOf x.key)).length ≤ 4096) := by
    unfold Hid
    rw [HLm.out.slots]
    have : (slotL (slotOf x.key) L).length ≤ L.length := by unfold slotL; rw [List.length_map]; exact List.length_filter_le _ _
    have := HLm.out.len
    omega
  have HFr : Hid (Ris (f (slotOf x.key))) := by
    have := slotL_ris HLm.out.srtL (slotOf x.key)
    rw [← HLm.out.slots] at this
    exact this
  have htk16 : 16 ≤ tk x := by unfold tk; omega
  clear hgx hde hmm hU hUn
  have HLn := hid (klen_any HP4.out.sp)
  rw [HDl.out] at HLn
  go_wp2_with fail
  refine HLn.out.mono ?_; rintro e w5 ⟨rfl, hh⟩
  have HP5 := hid (HP4.out.go hh.out)
  clear hh e0 e1 e2 e3 e4 e5 e6 e7 a0 a1 a2 a3 a4 a5 y0 y1 y2 y3 y4 y5 y6 y7 HTy4 HTy5 hltc hblc HLn
  obtain ⟨e0, e1, e2, e3, e4, e5, e6, e7⟩ := ent_facts HP5.out.blk
  obtain ⟨a0, a1, a2, a3, a4, a5⟩ := HP5.out.sp.facts
  have hnz : ¬ (4096 : Int) ≤ (L.length : Int) := by omega
  have HNn := hid hn
  have HLen : Hid ((insR (pr8 x) (delL x.key L)).length ≤ 4096) := by unfold Hid; rw [HLe.out]; omega
  clear hn
  have hm : mem < mem + (tk x : Int) := by omega
  have HOK := hid (putEL_ok (L := L) (room := room) HAb.out HRt.out (by rintro (⟨_, k1⟩ | ⟨k1, _⟩); exact absurd k1 HNn.out; rw [HU.out] at k1; omega))
  have HPM := hid (HP5.out.setMem (mem + (tk x : Int)))
  have HOw := hid (kown_any x (w5.setCell ⟨b, 1, none⟩ (.int .i64 (mem + (tk x : Int)))).drew ⟨HXa.out.pairs, HXa.out.items⟩ HPM.out.drew.lx.vi)
  obtain ⟨m0, m1, m2, m3, m4, m5, m6, m7⟩ := ent_facts HPM.out.blk
  obtain ⟨n0, n1, n2, n3, n4, n5⟩ := HPM.out.sp.facts
  have fr1 := HP5.out.sp.frozen 1
  go_upto_region 14 with fail
  go_cut [] (fun wx => ∃ O8 A8 Od8 y2, Hid (SpC B wx b d mb O8 A8 Od8 (Dc.putD D x.key y2) f room (mem + (tk x : Int)) now soon) ∧ Hid (pr8 y2 = pr8 x) ∧ Hid (Stp w wx O O8 A A8) ∧ Hid (wx.heap[w.heap.size]? = some (.cells x.cells 51 (0, 0)) ∧ ¬ O8 w.heap.size))
  case first =>
    have HDP : Hid (∀ (y2 : E8) (w7 : World), pr8 y2 = pr8 x ∧ OwnEn (w5.setCell ⟨b, 1, none⟩ (.int .i64 (mem + (tk x : Int)))).drew.heap.size w7 y2 ∧ Below (w5.setCell ⟨b, 1, none⟩ (.int .i64 (mem + (tk x : Int)))).drew.heap.size (w5.setCell ⟨b, 1, none⟩ (.int .i64 (mem + (tk x : Int)))).drew w7 → Calls Tryz.prog 226 #[ptr d, txt x.key, .agg y2.cells] w7 fun e w8 => e = .returned (.bool (Dc.hasL x.key D.L)) ∧ Hid (∃ O8 A8 Od8, Hid (SpC B w8 b d mb O8 A8 Od8 (Dc.putD D x.key y2) f room (mem + (tk x : Int)) now soon) ∧ Hid (Stp w w8 O O8 A A8) ∧ Hid (w8.heap[w.heap.size]? = some (.cells x.cells 51 (0, 0)) ∧ ¬ O8 w.heap.size))) := fun y2 w7 ⟨k1, k2, k3⟩ => by
      have hp7 := HPM.out.drew.go k3
      refine (Dc.DE.dq_put d Od D x.key y2 w7 hp7.sp.dq HLm.out.small2 HXa.out.key).mono fun e w8 ⟨he, hh⟩ => ⟨he, ?_⟩
      obtain ⟨Od', hq, hg, hk⟩ := hh.out
      have hsz : (w5.setCell ⟨b, 1, none⟩ (.int .i64 (mem + (tk x : Int)))).drew.heap.size ≤ w7.heap.size := k3.size
      have hold := HPM.out.drew.lt
      have h8 := hp7.sp.dict (fun k => (w5.setCell ⟨b, 1, none⟩ (.int .i64 (mem + (tk x : Int)))).drew.heap.size ≤ k ∧ k < w7.heap.size) hq hg hk (fun k hk => ⟨by have := hp7.sp.blt.2; have := hp7.old b (hp7.sp.sub b ((hp7.sp.own b).2 (.inl rfl))); omega, hk.2, fun ho => by have := hp7.old k (hp7.sp.sub k ho); omega⟩) (fun q hq2 => by
        rw [Dc.putD_L] at hq2
        rcases (Dc.put1_mem x.key y2 D.L q).1 hq2 with rfl | ⟨h1, _⟩
        · exact .inr k2.lies
        · exact .inl h1)
      have hs8 := hp7.sp.dict_stp hg hk
      refine ⟨_, _, Od', h8, HPM.out.drew.stp.trans ⟨(Keep.of_below k3).trans hs8.keep, fun k hk => (hs8.o k hk).imp id (fun h => Nat.le_trans hsz h), fun k hk => ?_⟩, ?_⟩
      · rcases hk with h1 | h1 | h1
        · exact .inl h1
        · exact .inr h1.1
        · exact (hs8.a k (.inr h1)).imp id (fun h => Nat.le_trans hsz h)
      · have hne : ∀ k, A k → k ≠ w.heap.size := fun k hA e => by have := hp7.old k hA; omega
        refine ⟨(hk.block w.heap.size hp7.lt (fun ho => hne _ (hp7.sp.sub _ ((hp7.sp.own _).2 (.inr (.inr ho)))) rfl)).trans hp7.blk, ?_⟩
        rintro (e1 | e1 | e1)
        · exact hne b (hp7.sp.sub _ ((hp7.sp.own _).2 (.inl rfl))) e1.symm
        · exact hne mb (hp7.sp.sub _ ((hp7.sp.own _).2 (.inr (.inl rfl)))) e1.symm
        · rcases hg _ e1 with e2 | e2
          · exact hne _ (hp7.sp.sub _ ((hp7.sp.own _).2 (.inr (.inr e2)))) rfl
          · have := hp7.lt; omega
    go_region_law (first
      | (go_simp; go_at_call 37; refine HOw.out.mono ?_; rintro e w7 ⟨y2, rfl, hh⟩; have HP7 := hid (HPM.out.drew.go hh.out.2.2); have HPr := hid hh.out.1; have HDP7 := hid (HDP.out y2 w7 hh.out); obtain ⟨i0, i1, i2, i3, i4, i5, i6, i7⟩ := ent_facts HP7.out.blk; obtain ⟨j0, j1, j2, j3, j4, j5⟩ := HP7.out.sp.facts; clear hh)
      | (go_simp; go_at_call 226; refine HDP7.out.mono ?_; rintro e w8 ⟨rfl, hh⟩; obtain ⟨O8, A8, Od8, hS8, hT8, hK8⟩ := hh.out; clear hh))
    all_goals (go_wp2_with fail; go_meet; exact ⟨O8, A8, Od8, y2, hS8, HPr, hT8, hK8⟩)
  case rest =>
  obtain ⟨O8, A8, Od8, y2, HS8, HPr, HT8, HK8⟩ := hcut
  clear m0 m1 m2 m3 m4 m5 m6 m7 n0 n1 n2 n3 n4 n5 fr1 HOw HPM
  obtain ⟨m0, m1, m2, m3, m4, m5, m6, m7⟩ := ent_facts HK8.out.1
  have HX8 := hid (kexpect_any HS8.out x)
  go_wp2_with fail
  refine HX8.out.mono ?_; rintro e w9 ⟨rfl, hh⟩
  have HS9 := hid hh.out.1
  have HT9 := hid (HT8.out.trans hh.out.2)
  have HK9 := hid ((hh.out.2.keep.block w.heap.size (Array.getElem?_eq_some_iff.1 HK8.out.1).1 HK8.out.2).trans HK8.out.1)
  clear hh m0 m1 m2 m3 m4 m5 m6 m7
  have hK9 : w9.heap[w.heap.size]? = some (.cells x.cells 51 (0, 0)) := HK9.out
  obtain ⟨m0, m1, m2, m3, m4, m5, m6, m7⟩ := ent_facts hK9
  have HN9 := hid (kenter_any HS9.out x.key HXa.out.key (by have := HFl.out; omega) HFr.out)
  go_wp2_with fail
  refine HN9.out.mono ?_; rintro e w10 ⟨rfl, hh⟩
  obtain ⟨A10, hS10, hT10⟩ := hh.out
  have HE10 := hid (And.intro hS10 (HT9.out.trans hT10))
  clear hh hS10 hT10
  go_wp2_with fail
  go_ret
  refine ⟨by rw [HEE.out, HOK.out]; rfl, HPost.out _ ?_⟩
  have hll : putLL L room now (pr8 x) = insR (pr8 x) (delL x.key L) := by unfold putLL; rw [HOK.out, if_pos rfl, insL_eq]
  refine ⟨O8, A10, Od8, _, _, _, _, HE10.out.1, ?_, .inr rfl, fun _ => rfl, HE10.out.2⟩
  rw [hll]
  exact HLm.out.put x y2 HPr.out HGd.out HLen.out HSl.out HMm.out

end Go.Proofs.YtcbncdigejjcpaaGreatDoor
