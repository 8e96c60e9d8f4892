/- KP1. -/
import Derived.Test.YtcbncdigejjcpaaGreatDoorM34
namespace Go.Proofs.YtcbncdigejjcpaaGreatDoor
open Go.RowKit

set_option maxHeartbeats 8000000 in
set_option maxRecDepth 100000 in
theorem kput_p1 {B : Nat} {w : World} {b d mb : Nat} {O A Od : Nat → Prop} {D : Dc.DM E8} {f : Int → Row} {room mem now soon : Int} {L : List EP} (h : SpC B w b d mb O A Od D f room mem now soon) (hL : SpL D f mem L) (x : E8) (hx : Arg8 x) (hV : Lies (Off O) w x)
    (h1 : ¬ 1024 < x.key.length) (h2 : ¬ x.ends < 0) (h3 : ¬ 1099511627776 < x.ends) (h4 : ¬ (0 < x.ends ∧ x.ends ≤ now)) (h5 : rightB x.m = true) (hs : (Dc.getL x.key D.L).isSome = true) (hr : room < mem + (tk x : Int) - (tk ((Dc.getL x.key D.L).getD Dc.DE.e80) : Int) ∧ mem < mem + (tk x : Int) - (tk ((Dc.getL x.key D.L).getD Dc.DE.e80) : Int)) : PutSp B w b d mb O A L room now soon x := by
  have hab : ¬ argBadP (pr8 x) now := by unfold argBadP; dsimp only; omega
  obtain ⟨g1, g2, g2c, gk, g3, g4⟩ := h.at hL x.key
  have HG := hid (fun W (h : Dc.DE.Dq B W d Od D) => Dc.DE.dq_get d Od D x.key W h hL.small2 hx.key)
  obtain ⟨y, hy⟩ : ∃ y, y = (Dc.getL x.key D.L).getD Dc.DE.e80 := ⟨_, rfl⟩
  rw [← hy] at hr
  obtain ⟨is, his⟩ : ∃ is, is = (Dc.getL x.key D.L).isSome := ⟨_, rfl⟩
  rw [← his] at hs
  rw [← hy, ← his] at HG
  rw [← hy] at g1 g2 g2c gk g3
  rw [← his] at g4
  have h0 := h.below (below_alloc w (eob x))
  have hly : Lies (Off O) w y := by
    rw [hy]
    cases hd : Dc.getL x.key D.L with
    | none => exact ⟨VI.zero w, fun h => absurd rfl h, fun h => absurd rfl h⟩
    | some z =>
      have hm : (x.key, z) ∈ D.L := by
        unfold Dc.getL at hd
        obtain ⟨p, hp, rfl⟩ := Option.map_eq_some_iff.1 hd
        have k1 := List.find?_some hp
        have k2 := List.mem_of_find?_eq_some hp
        simp only [beq_iff_eq] at k1
        rw [← k1]
        exact k2
      exact (h.lies _ hm).keep (Keep.refl _ _) (fun _ h => h.2)
  have HP0 : Hid (PutAt B w b d mb O A Od D f room mem now soon x y (w.alloc (eob x))) := ⟨h0, ent_new w x, Stp.below (below_alloc w (eob x)) O A, fun k hk => (h.lt k hk).2, hV.below (below_alloc w (eob x)), hly.below (below_alloc w (eob x))⟩
  obtain ⟨a0, a1, a2, a3, a4, a5⟩ := h0.facts
  obtain ⟨c0, c1, c2, c3, c4, c5, c6, c7⟩ := ent_facts (ent_new w x)
  have hz : ¬ (1024 : Int) < (x.key.length : Int) := by omega
  have HE := hid (kended_any h0 x)
  rw [decide_eq_false h4] at HE
  have HR : Hid (∀ W, VI W x.m x.pp x.pc x.ip x.ic → Calls Tryz.prog 190 #[vv x.m x.pp x.pc x.ip x.ic] W fun e w' => e = .returned (.bool (rightB x.m)) ∧ Hid (Below W.heap.size W w')) := fun W h => pright_any x.m x.pp x.pc x.ip x.ic W hx.came h
  rw [h5] at HR
  have HT := hid (fun W (ht : Tab W) (h : VI W x.m x.pp x.pc x.ip x.ic) => ktakes_any x W ht hx.came hx.key h)
  have HTy := hid (fun W (ht : Tab W) (h : VI W y.m y.pp y.pc y.ip y.ic) => ktakes_any y W ht g2c (by omega) h)
  have hmb0 := hL.memB.1
  have hmb1 := hL.memB.2
  have htx := tkE_le (x := pr8 x) (show x.key.length ≤ 1024 by omega)
  rw [show tkE (pr8 x) = tk x from rfl] at htx
  have hty := tkE_le (x := pr8 y) gk
  rw [show tkE (pr8 y) = tk y from rfl] at hty
  have htxz : (tk x : Int) ≤ 1001042 := by omega
  have htx0 : (0 : Int) ≤ (tk x : Int) := by omega
  have htyz : (tk y : Int) ≤ 1001042 := by omega
  have hty0 : (0 : Int) ≤ (tk y : Int) := by omega
  have HLm := hid hL
  have HXa := hid hx
  have hw1 : IntKind.i64.wrap (mem + (tk x : Int)) = mem + (tk x : Int) := by rw [IntKind.wrap_i64]; omega
  have HY := hid hy
  have HIs := hid his
  have HG3' := hid g3
  have HG4 := hid g4
  clear htx hty h h0 hV g1 g2 g2c h4 h1 hy his g3 g4 hly
  have HSv := hid hs
  clear hs
  obtain ⟨E, hE⟩ : ∃ E, E = putEL L room now (pr8 x) := ⟨_, rfl⟩
  unfold PutSp
  rw [← hE]
  have HEE := hid hE
  have HPost : Hid (∀ w', (∃ O' A' Od' D' f' mem' soon', SpC B w' b d mb O' A' Od' D' f' room mem' now soon' ∧ SpL D' f' mem' (putLL L room now (pr8 x)) ∧ (soon' = soon ∨ soon' = (if 0 < x.ends then min soon x.ends else soon)) ∧ (putEL L room now (pr8 x) = 0 → soon' = (if 0 < x.ends then min soon x.ends else soon)) ∧ Stp w w' O O' A A') → PutPost B w b d mb O A L room now soon x w') := fun _ h => h
  clear hE
  go_enter Tryz.func186, Tryz.ntmps186
  go_wp2_with fail
  refine HE.out.mono ?_; rintro e w1 ⟨rfl, hh⟩
  have HP1 := hid (HP0.out.go hh.out)
  obtain ⟨d0, d1, d2, d3, d4, d5, d6, d7⟩ := ent_facts HP1.out.blk
  have HR1 := hid (HR.out w1 HP1.out.lx.vi)
  clear hh c0 c1 c2 c3 c4 c5 c6 c7 a0 a1 a2 a3 a4 a5
  go_wp2_with fail
  refine HR1.out.mono ?_; rintro e w2 ⟨rfl, hh⟩
  have HP2 := hid (HP1.out.go hh.out)
  have HT2 := hid (HT.out w2.drew HP2.out.drew.sp.tab HP2.out.drew.lx.vi)
  obtain ⟨e0, e1, e2, e3, e4, e5, e6, e7⟩ := ent_facts HP2.out.blk
  obtain ⟨a0, a1, a2, a3, a4, a5⟩ := HP2.out.sp.facts
  clear hh d0 d1 d2 d3 d4 d5 d6 d7
  go_upto_region 5 with fail
  go_cut [5] (fun c5 wx => c5 = .int .i64 (mem + (tk x : Int)) ∧ Hid (PutAt B w b d mb O A Od D f room mem now soon x y wx))
  case first =>
    go_region_law (first
      | (go_simp; go_at_call 58; refine HT2.out.mono ?_; rintro e w3 ⟨rfl, hh⟩; have HP3 := hid (HP2.out.drew.go hh.out); obtain ⟨b0, b1, b2, b3, b4, b5⟩ := HP3.out.sp.facts; clear hh))
    all_goals (go_wp2_with fail; go_meet; exact ⟨rfl, HP3⟩)
  case rest =>
  obtain ⟨rfl, HP3⟩ := hcut
  clear e0 e1 e2 e3 e4 e5 e6 e7 a0 a1 a2 a3 a4 a5 HT2 HR1
  obtain ⟨e0, e1, e2, e3, e4, e5, e6, e7⟩ := ent_facts HP3.out.blk
  obtain ⟨a0, a1, a2, a3, a4, a5⟩ := HP3.out.sp.facts
  have hltc := HP3.out.lt
  have hblc := HP3.out.sp.blt.1
  have HG3 := hid (HG.out wc.drew HP3.out.drew.sp.dq)
  have HBz := hid (below_alloc wc (.cells #[.string ⟨#[]⟩, .int .i64 0, .string ⟨#[]⟩, .slice none 0 0, .slice none 0 0, .int .i64 0, .int .i64 0, .int .i64 0] 51)).drew
  have HGz := hid (HG.out (wc.alloc (.cells #[.string ⟨#[]⟩, .int .i64 0, .string ⟨#[]⟩, .slice none 0 0, .slice none 0 0, .int .i64 0, .int .i64 0, .int .i64 0] 51)).drew (HP3.out.go HBz.out).sp.dq)
  have HZz : Hid ((wc.alloc (.cells #[.string ⟨#[]⟩, .int .i64 0, .string ⟨#[]⟩, .slice none 0 0, .slice none 0 0, .int .i64 0, .int .i64 0, .int .i64 0] 51)).drew.heap[wc.heap.size]? = some (.cells #[.string ⟨#[]⟩, .int .i64 0, .string ⟨#[]⟩, .slice none 0 0, .slice none 0 0, .int .i64 0, .int .i64 0, .int .i64 0] 51 (0, 0))) := heap_alloc_new wc _
  have HZs : Hid ((wc.alloc (.cells #[.string ⟨#[]⟩, .int .i64 0, .string ⟨#[]⟩, .slice none 0 0, .slice none 0 0, .int .i64 0, .int .i64 0, .int .i64 0] 51)).drew.heap.size = wc.heap.size + 1) := by unfold Hid; simp [World.drew]
  go_upto_region 6 with fail
  go_cut [6, 7] (fun c6 c7 wx => ∃ F, c6 = .pointer (some ⟨F, 0, none⟩) ∧ c7 = .bool is ∧ Hid (PutAt B w b d mb O A Od D f room mem now soon x y wx) ∧ Hid (wx.heap[F]? = some (.cells y.cells 51 (0, 0))))
  case first =>
    go_region_law (first
      | (go_simp; go_at_call 32; (with_reducible refine HG3.out.mono ?_); rintro e w4 ⟨rfl, hh⟩; have HB4 := hid ((Below.refl wc.heap.size wc).drew.trans hh.out); have HP4 := hid (HP3.out.go HB4.out); obtain ⟨b0, b1, b2, b3, b4, b5⟩ := HP4.out.sp.facts; obtain ⟨f0, f1, f2, f3, f4, f5, f6, f7⟩ := ent_facts HP4.out.blk; have hlt4 := HB4.out.size; clear hh)
      | (go_simp; go_at_call 32; (with_reducible refine HGz.out.mono ?_); rintro e w4 ⟨rfl, hh⟩; have HB4 := hid (HBz.out.trans (hh.out.mono (show wc.heap.size ≤ _ by rw [HZs.out]; omega))); have HF4 := hid ((hh.out.block wc.heap.size (by rw [HZs.out]; omega)).trans HZz.out); obtain ⟨z0, z1, z2, z3, z4, z5, z6, z7⟩ := ent_facts HF4.out; obtain ⟨t0, t1, t2, t3, t4, t5, t6, t7⟩ := ent_frozen HF4.out; clear hh))
    all_goals (go_wp2_with fail; go_meet; first | exact ⟨_, rfl, rfl, HP4.out.go (below_alloc w4 (eob y)), ent_new w4 y⟩ | exact ⟨_, rfl, rfl, HP3.out.go ((set8_onlyB w4 wc.heap.size (txt y.key) (.int .i64 y.m.kind) (txt y.m.text) (.slice y.pp y.m.pairs.length y.pc) (.slice y.ip y.m.items.length y.ic) (.int .i64 y.m.px) (.int .i64 y.m.py) (.int .i64 y.ends)).below HB4.out (Nat.le_refl _)), Dc.DE.set8_same _ _ _ _ _ _ _ _ HF4.out⟩)
  case rest =>
  obtain ⟨F, rfl, rfl, HP4, HF⟩ := hcut
  clear e0 e1 e2 e3 e4 e5 e6 e7 a0 a1 a2 a3 a4 a5 HG3 HBz HGz HZz HZs hltc hblc HP3
  obtain ⟨e0, e1, e2, e3, e4, e5, e6, e7⟩ := ent_facts HP4.out.blk
  obtain ⟨a0, a1, a2, a3, a4, a5⟩ := HP4.out.sp.facts
  obtain ⟨y0, y1, y2, y3, y4, y5, y6, y7⟩ := ent_facts HF.out
  have hltc := HP4.out.lt
  have hblc := HP4.out.sp.blt.1
  have HTy4 := hid (HTy.out wc HP4.out.sp.tab HP4.out.ly.vi)
  have HTy5 := hid (HTy.out wc.drew HP4.out.drew.sp.tab HP4.out.drew.ly.vi)
  have HGd : Hid (x.key.length ≤ 1024 ∧ RtV x.m ∧ 0 ≤ x.ends ∧ x.ends ≤ 1099511627776) := ⟨by omega, rightB_iff.1 h5, by omega, by omega⟩
  have hab' := hab
  have HAb := hid hab
  have HRt := hid h5
  clear hab hab' h5
  have hsv := HSv.out
  subst hsv
  have hgx : getL x.key L = some (pr8 y) := by
    cases e : getL x.key L with
    | none => have := HG4.out; rw [e] at this; cases this
    | some z => have := HG3'.out; rw [e] at this; rw [this]; rfl
  have hdm := memL_del HLm.out.srtL hgx
  rw [show tkE (pr8 y) = tk y from rfl] at hdm
  have hdl := delL_len_some HLm.out.srtL hgx
  have hmm := HLm.out.mem
  have HLen : Hid ((insR (pr8 x) (delL x.key L)).length ≤ 4096) := by unfold Hid; rw [insR_len]; have := HLm.out.len; omega
  have HSl : Hid (∀ n, f n = slotL n (insR (pr8 x) (delL x.key L))) := fun n => by rw [HLm.out.slots, slotL_put_has HLm.out.srtL (x := pr8 x) hgx n]
  have HMm : Hid (mem + (tk x : Int) - (tk y : Int) = (memL (insR (pr8 x) (delL x.key L)) : Int)) := by unfold Hid; rw [memL_ins, show tkE (pr8 x) = tk x from rfl]; omega
  have hU : ((memL (delL (pr8 x).1 L) + tkE (pr8 x) : Nat) : Int) = mem + (tk x : Int) - (tk y : Int) := by rw [show tkE (pr8 x) = tk x from rfl, show (pr8 x).1 = x.key from rfl]; omega
  have hUn : memL L < memL (delL (pr8 x).1 L) + tkE (pr8 x) ↔ mem < mem + (tk x : Int) - (tk y : Int) := by rw [← hU]; omega
  have HU := hid hU
  have HUn := hid hUn
  have HSm := hid (show (getL (pr8 x).1 L).isSome = true by show (getL x.key L).isSome = true; rw [hgx]; rfl)
  clear hgx hdm hdl hmm hU hUn
  have hwr : IntKind.i64.wrap (mem + (tk x : Int) - (tk y : Int)) = mem + (tk x : Int) - (tk y : Int) := by rw [IntKind.wrap_i64]; omega
  go_wp2_with fail
  refine HTy4.out.mono ?_; rintro e w5 ⟨rfl, hh⟩
  have HP5 := hid (HP4.out.go hh.out)
  clear hh e0 e1 e2 e3 e4 e5 e6 e7 a0 a1 a2 a3 a4 a5 y0 y1 y2 y3 y4 y5 y6 y7 HTy4 HTy5 hltc hblc
  obtain ⟨e0, e1, e2, e3, e4, e5, e6, e7⟩ := ent_facts HP5.out.blk
  obtain ⟨a0, a1, a2, a3, a4, a5⟩ := HP5.out.sp.facts
  have HFU := hid (putEL_full (room := room) HAb.out HRt.out (.inr ⟨by rw [HU.out]; omega, HUn.out.2 (by omega)⟩))
  obtain ⟨hr1, hr2⟩ := hr
  go_wp2_with fail
  go_ret
  refine ⟨by rw [HEE.out, HFU.out]; rfl, HPost.out _ ⟨O, A, Od, D, f, mem, soon, HP5.out.sp, ?_, .inl rfl, fun h => ?_, HP5.out.stp⟩⟩
  · unfold putLL
    rw [HFU.out, if_neg (by decide)]
    exact HLm.out
  · rw [HFU.out] at h
    cases h

end Go.Proofs.YtcbncdigejjcpaaGreatDoor
