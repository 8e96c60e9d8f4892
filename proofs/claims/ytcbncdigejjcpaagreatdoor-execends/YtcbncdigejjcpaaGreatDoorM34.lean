/- KS3, KS4, KS5. -/
import Derived.Test.YtcbncdigejjcpaaGreatDoorM33
import Derived.Deep.DeepCutAuto
namespace Go.Proofs.YtcbncdigejjcpaaGreatDoor
open Go.RowKit

/-- the entry that a dict has at a key -/
theorem SpC.at {B : Nat} {w : World} {b d mb : Nat} {O A Od : Nat → Prop} {D : Dc.DM E8} {f : Int → Row} {room mem now soon : Int} {L : List EP} (h : SpC B w b d mb O A Od D f room mem now soon) (hL : SpL D f mem L) (k : Nm) :
    VI w ((Dc.getL k D.L).getD Dc.DE.e80).m ((Dc.getL k D.L).getD Dc.DE.e80).pp ((Dc.getL k D.L).getD Dc.DE.e80).pc ((Dc.getL k D.L).getD Dc.DE.e80).ip ((Dc.getL k D.L).getD Dc.DE.e80).ic ∧ Lean8 ((Dc.getL k D.L).getD Dc.DE.e80).m ∧ Came ((Dc.getL k D.L).getD Dc.DE.e80).m ∧ ((Dc.getL k D.L).getD Dc.DE.e80).key.length ≤ 1024 ∧ pr8 ((Dc.getL k D.L).getD Dc.DE.e80) = (getL k L).getD ([], zeroV, 0) ∧ (Dc.getL k D.L).isSome = (getL k L).isSome := by
  have hg := hL.get k
  cases hd : Dc.getL k D.L with
  | none =>
    rw [hd] at hg
    rw [← hg]
    exact ⟨VI.zero w, ⟨by simp [Dc.DE.e80], by simp [Dc.DE.e80], by simp [Dc.DE.e80], by simp [Dc.DE.e80], by simp [Dc.DE.e80], by simp [Dc.DE.e80], by simp [Dc.DE.e80]⟩, ⟨by simp [Dc.DE.e80], by simp [Dc.DE.e80], by simp [Dc.DE.e80], by simp [Dc.DE.e80], by simp [Dc.DE.e80], by simp [Dc.DE.e80], by simp [Dc.DE.e80], by simp [Dc.DE.e80], by simp [Dc.DE.e80]⟩, by simp [Dc.DE.e80], rfl, rfl⟩
  | some x =>
    rw [hd] at hg
    rw [← hg]
    have hm : (k, x) ∈ D.L := by
      unfold Dc.getL at hd
      obtain ⟨p, hp, rfl⟩ := Option.map_eq_some_iff.1 hd
      have h1 := List.find?_some hp
      have h2 := List.mem_of_find?_eq_some hp
      simp only [beq_iff_eq] at h1
      rw [← h1]
      exact h2
    have hmem : pr8 x ∈ L := by rw [← hL.ent]; exact List.mem_map.2 ⟨_, hm, rfl⟩
    obtain ⟨g1, g2, _⟩ := hL.good _ hmem
    exact ⟨(h.lies _ hm).vi, rt_small g2, rt_came g2, g1, rfl, rfl⟩
set_option maxHeartbeats 4000000 in
set_option maxRecDepth 100000 in
/-- Get -/
theorem kget_any {B : Nat} {w : World} {b d mb : Nat} {O A Od : Nat → Prop} {D : Dc.DM E8} {f : Int → Row} {room mem now soon : Int} {L : List EP} (h : SpC B w b d mb O A Od D f room mem now soon) (hL : SpL D f mem L) (k : Nm) (hk : k.length ≤ 140737488351232) :
    Calls Tryz.prog 18 #[ptr b, txt k] w fun e w' => ∃ y : E8, e = .returned (.tuple #[ev y, .bool (getL k L).isSome]) ∧ Hid (pr8 y = (getL k L).getD ([], zeroV, 0) ∧ OwnEn w.heap.size w' y ∧ Below w.heap.size w w') := by
  have HA := hid (below_alloc w (eob Dc.DE.e80))
  have HA1 := hid (ent_new w Dc.DE.e80)
  have HA2 : Hid ((w.alloc (eob Dc.DE.e80)).heap.size = w.heap.size + 1) := by simp [Hid]
  have h2 := h.below HA.out
  obtain ⟨g1, g2, -, -, g3, g4⟩ := h2.at hL k
  have HG := hid (Dc.DE.dq_get d Od D k _ h2.dq hL.small2 hk)
  obtain ⟨a0, a1, a2, a3, a4, a5⟩ := h.facts
  have hbl := h.blt.1
  obtain ⟨x, hx⟩ : ∃ x, x = (Dc.getL k D.L).getD Dc.DE.e80 := ⟨_, rfl⟩
  rw [← hx] at g1 g2 g3 HG
  rw [← g3, ← g4]
  generalize (Dc.getL k D.L).isSome = s at *
  have HV := hid g1
  have HR : Hid (x.m.pairs.length * 32 ≤ 140737488351232 ∧ x.m.items.length * 16 ≤ 140737488351232) := ⟨by have := g2.pairs; omega, by have := g2.items; omega⟩
  clear h h2 hL g1 g2 g3 g4 hx
  go_enter Tryz.func18, Tryz.ntmps18
  go_wp2_with fail
  refine HG.out.mono ?_; rintro e w1 ⟨rfl, hb⟩
  have hs0 := HA2.out
  have hs1 := hb.out.size
  have hx1 := (hb.out.block w.heap.size (by omega)).trans HA1.out
  have HB1 := hid (HA.out.trans (hb.out.mono HA.out.size))
  have HX1 := hid hx1
  have HV1 := hid (HV.out.below hb.out)
  have hlt : w.heap.size < w1.heap.size := by omega
  clear hx1 hb
  go_wp2_with fail
  have hba := below_alloc w1 (eob x)
  have HWa := hid hba
  have HO := hid (kown_any x (w1.alloc (eob x)) HR.out (HV1.out.below hba))
  have HX2 := hid ((hba.block w.heap.size hlt).trans HX1.out)
  have hsz : (w1.alloc (eob x)).heap.size = w1.heap.size + 1 := by simp
  have HSZ := hid hsz
  clear hba hsz
  refine HO.out.mono ?_; rintro e w2 ⟨y, rfl, hh⟩
  have HY := hid hh.out
  have hx3 := (hh.out.2.2.block w.heap.size (by have := HSZ.out; omega)).trans HX2.out
  have HX3 := hid hx3
  obtain ⟨r0, r1, r2, r3, r4, r5, r6, r7⟩ := ent_facts hx3
  obtain ⟨f0, f1, f2, f3, f4, f5, f6, f7⟩ := ent_frozen hx3
  have HB2 := hid (HB1.out.trans ((HWa.out.mono HB1.out.size).trans (hh.out.2.2.mono (by have := HSZ.out; omega))))
  clear hh hx3
  go_wp2_with fail
  refine bodyPost_ret (v := .tuple #[ev y, .bool s]) ?_ rfl ?_
  · exact ret_etel rfl rfl rfl (Dc.DE.set8_same _ _ _ _ _ _ _ _ HX3.out)
  · have HO3 := set8_onlyB w2 w.heap.size (txt y.key) (.int .i64 y.m.kind) (txt y.m.text) (.slice y.pp y.m.pairs.length y.pc) (.slice y.ip y.m.items.length y.ic) (.int .i64 y.m.px) (.int .i64 y.m.py) (.int .i64 y.ends)
    refine ⟨y, rfl, HY.out.1, ?_, HO3.below HB2.out (Nat.le_refl _)⟩
    exact (HY.out.2.1.keep (HO3.keep (by have := HSZ.out; omega))).mono (by have := HSZ.out; omega)
theorem dq_del {B : Nat} (b : Nat) (O : Nat → Prop) (D : Dc.DM E8) (n : Nm) (w : World) (h : Dc.DE.Dq B w b O D) (hS : Dc.Small 100000 D) (hn : n.length ≤ 140737488351232) :
    Calls Tryz.prog 59 #[ptr b, txt n] w fun e w' => e = .returned (.bool (Dc.hasL n D.L)) ∧ Hid (∃ O', Dc.DE.Dq B w' b O' (Dc.delD D n) ∧ Grew w O O' ∧ Keep (Off O) w w') := by
  obtain ⟨g, nb, ev, T, hO, hL, hG, hE, hnm⟩ := h
  refine (Dc.DE.del_any ⟨hL, hG, hE, Dc.DE.Turn.refl g w⟩ hS hnm n hn).mono fun e w' ⟨he, hh⟩ => ⟨he, ?_⟩
  obtain ⟨g', nb', ev', T', hH⟩ := hh.out
  refine hH.dq (fun x hx => ?_) O hO
  rw [Dc.delD_L] at hx
  exact hnm x (Dc.delL_mem.1 hx).1
/-- an entry is taken out -/
theorem SpL.del {D : Dc.DM E8} {f : Int → Row} {mem : Int} {L : List EP} (h : SpL D f mem L) {k : Nm} {x : EP} (hg : getL k L = some x) :
    SpL (Dc.delD D k) (updF f (slotOf k) (less (f (slotOf k)) [k])) (mem - (tkE x : Int)) (delL k L) where
  ent := by rw [Dc.delD_L, ofD_del h.key, h.ent]
  key := by rw [Dc.delD_L]; exact keyD_del h.key k
  srt := by rw [Dc.delD_L]; exact h.srt.del k
  slots := fun n => by
    by_cases e : n = (slotOf k : Int)
    · rw [e, updF_same, h.slots, slotL_del h.srtL]
    · rw [updF_other _ _ _ e, h.slots, slotL_del_other (fun e2 => e e2.symm)]
  mem := by
    have := memL_del h.srtL hg
    rw [h.mem]
    omega
  good := fun y hy => h.good y (delL_mem.1 hy).1
  len := by have := delL_len k L; have := h.len; omega
  small := h.small.del k
set_option maxHeartbeats 4000000 in
set_option maxRecDepth 100000 in
/-- Delete -/
theorem kdel_any {B : Nat} {w : World} {b d mb : Nat} {O A Od : Nat → Prop} {D : Dc.DM E8} {f : Int → Row} {room mem now soon : Int} {L : List EP} (h : SpC B w b d mb O A Od D f room mem now soon) (hL : SpL D f mem L) (k : Nm) (hk : k.length ≤ 140737488351232) :
    Calls Tryz.prog 34 #[ptr b, txt k] w fun e w' => e = .returned (.bool (getL k L).isSome) ∧ Hid (∃ O' A' Od' D' f' mem', SpC B w' b d mb O' A' Od' D' f' room mem' now soon ∧ SpL D' f' mem' (delL k L) ∧ Stp w w' O O' A A') := by
  obtain ⟨g1, g2, g2c, gk, g3, g4⟩ := h.at hL k
  have HG := hid (Dc.DE.dq_get d Od D k w h.dq hL.small2 hk)
  obtain ⟨a0, a1, a2, a3, a4, a5⟩ := h.facts
  have hbl := h.blt.1
  obtain ⟨x, hx⟩ : ∃ x, x = (Dc.getL k D.L).getD Dc.DE.e80 := ⟨_, rfl⟩
  rw [← hx] at g1 g2 g2c gk g3 HG
  have g4' := g4
  rw [← g4]
  have H := hid h
  have HLm := hid hL
  have HV := hid g1
  have HC := hid g2c
  have hmB := hL.memB
  by_cases hs : (Dc.getL k D.L).isSome = true
  · have hgx : getL k L = some (pr8 x) := by
      cases e : getL k L with
      | none => rw [e] at g4'; rw [hs] at g4'; cases g4'
      | some y => rw [e] at g3; rw [g3]; rfl
    rw [hs] at HG ⊢
    have HLd := hid (hL.del hgx)
    rw [show (tkE (pr8 x) : Int) = (tk x : Int) from rfl] at HLd
    have htk := tkE_le (x := pr8 x) gk
    rw [show tkE (pr8 x) = tk x from rfl] at htk
    have htz : (tk x : Int) ≤ 1001042 := by omega
    have htz0 : (0 : Int) ≤ (tk x : Int) := by omega
    have HGk := hid gk
    have HK := hid hk
    have hlen : (f (slotOf k)).length ≤ 4096 := by
      rw [hL.slots]
      have : (slotL (slotOf k) L).length ≤ L.length := by unfold slotL; rw [List.length_map]; exact List.length_filter_le _ _
      have := hL.len
      omega
    have HFl := hid hlen
    have HFr : Hid (Ris (f (slotOf k))) := by
      have := slotL_ris hL.srtL (slotOf k)
      rw [← hL.slots] at this
      exact this
    clear g1 g2 g2c gk g3 g4 hx h hL hs hgx htk hk hlen
    go_enter Tryz.func34, Tryz.ntmps34
    go_wp2_with fail
    refine HG.out.mono ?_; rintro e w1 ⟨rfl, hb⟩
    have h1 := H.out.below hb.out
    have HV1 := hid (HV.out.below hb.out)
    have hba := below_alloc w1 (eob x)
    have h2 := h1.below hba
    have hd2 := h2.below (Below.refl _ _).drew
    obtain ⟨b0, b1, b2, b3, b4, b5⟩ := h1.facts
    have hbl1 := h1.blt.1
    have H2 := hid hd2
    have HT := hid (ktakes_any x (w1.alloc (eob x)).drew hd2.tab HC.out (by have := HGk.out; omega) ((HV1.out.below hba).below (Below.refl _ _).drew))
    have HS2 := hid (Stp.below (hb.out.trans (hba.drew.mono hb.out.size)) O A)
    clear h1 h2 hd2 hba a0 a1 a2 a3 a4 a5 hb
    go_wp2_with fail
    go_region_law (first
      | (go_simp; go_at_call 58; refine HT.out.mono ?_; rintro e w2 ⟨rfl, hh⟩; have H3 := hid (H2.out.below hh.out); have HS3 := hid (HS2.out.trans (Stp.below hh.out O A)); obtain ⟨e0, e1, e2, e3, e4, e5⟩ := H3.out.facts; have ef1 := H3.out.frozen 1; clear hh))
    all_goals
      obtain ⟨h4, hs4⟩ := H3.out.setMem (mem - (tk x : Int))
      have hbl2 := H3.out.blt.1
      have H4 := hid h4
      have HS4 := hid (HS3.out.trans hs4)
      have HD := hid (dq_del d Od D k _ h4.dq HLm.out.small2 HK.out)
      obtain ⟨c0, c1, c2, c3, c4, c5⟩ := h4.facts
      clear h4 hs4 e0 e1 e2 e3 e4 e5 ef1 b0 b1 b2 b3 b4 b5
      go_wp2_with fail
      refine HD.out.mono ?_; rintro e w5 ⟨rfl, hh⟩
      obtain ⟨Od', hq, hg, hkp⟩ := hh.out
      have h5 := H4.out.dict (fun _ => False) hq hg hkp (fun k h => h.elim) (fun p hp => .inl (by rw [Dc.delD_L] at hp; exact (Dc.delL_mem.1 hp).1))
      have hs5 := H4.out.dict_stp hg hkp
      have H5 := hid h5
      have HV5 := hid (kleave_any h5 k HK.out (by have := HFl.out; omega) HFr.out)
      have HS5 : Hid (Stp w w5 O (fun k => k = b ∨ k = mb ∨ Od' k) A (fun k => A k ∨ False ∨ Od' k)) := HS4.out.trans ⟨hs5.keep, hs5.o, fun i hi => hs5.a i (hi.imp id (fun h => h.elim (fun h => h.elim) id))⟩
      clear hh hq hg hkp h5 hs5 c0 c1 c2 c3 c4 c5
      go_wp2_with fail
      refine HV5.out.mono ?_; rintro e w6 ⟨rfl, hh⟩
      obtain ⟨A', h6, hs6⟩ := hh.out
      have HE := hid (And.intro h6 (HS5.out.trans hs6))
      clear hh h6 hs6
      go_wp2_with fail
      go_ret
      exact ⟨rfl, _, A', Od', _, _, _, HE.out.1, HLd.out, HE.out.2⟩
  · have hs : (Dc.getL k D.L).isSome = false := by simpa using hs
    rw [hs] at HG ⊢
    have hgn : getL k L = none := by
      cases e : getL k L with
      | none => rfl
      | some y => rw [e, hs] at g4'; cases g4'
    have HLn : Hid (SpL D f mem (delL k L)) := by unfold Hid; rw [delL_none hgn]; exact hL
    clear g1 g2 g2c gk g3 g4 g4' hx h hL hs hgn hk
    go_enter Tryz.func34, Tryz.ntmps34
    go_wp2_with fail
    refine HG.out.mono ?_; rintro e w1 ⟨rfl, hb⟩
    have HB2 := hid (hb.out.trans ((below_alloc w1 (eob x)).mono hb.out.size))
    clear hb
    go_wp2_with fail
    go_ret
    exact ⟨rfl, O, A, Od, D, f, mem, H.out.below HB2.out, HLn.out, Stp.below HB2.out O A⟩

end Go.Proofs.YtcbncdigejjcpaaGreatDoor

namespace Go.Proofs.YtcbncdigejjcpaaGreatDoor
open Go.RowKit

/-- an entry that can come in -/
structure Arg8 (x : E8) : Prop where
  key : x.key.length ≤ 140737488351232
  came : Came x.m
  pairs : x.m.pairs.length * 32 ≤ 140737488351232
  items : x.m.items.length * 16 ≤ 140737488351232
  ends : In64 x.ends
/-- Put answers with an error, and nothing has turned -/
abbrev Refused (w : World) (b : Nat) (x : E8) (e : Int) : Prop := Calls Tryz.prog 186 #[ptr b, ev x] w fun r w' => r = .returned (.int .i64 e) ∧ Hid (Below w.heap.size w w')
set_option maxHeartbeats 4000000 in
set_option maxRecDepth 100000 in
theorem kput_key {B : Nat} {w : World} {b d mb : Nat} {O A Od : Nat → Prop} {D : Dc.DM E8} {f : Int → Row} {room mem now soon : Int} (h : SpC B w b d mb O A Od D f room mem now soon) (x : E8) (hx : Arg8 x) (h1 : 1024 < x.key.length) : Refused w b x 1 := by
  have HB := hid (below_alloc w (eob x))
  have h0 := h.below HB.out
  obtain ⟨a0, a1, a2, a3, a4, a5⟩ := h0.facts
  obtain ⟨c0, c1, c2, c3, c4, c5, c6, c7⟩ := ent_facts (ent_new w x)
  have hz : (1024 : Int) < (x.key.length : Int) := by omega
  have hz2 : (x.key.length : Int) ≤ 140737488351232 := by have := hx.key; omega
  clear h h0 h1 hx
  go_enter Tryz.func186, Tryz.ntmps186
  go_wp2_with fail
  go_ret
  exact ⟨rfl, HB.out⟩
set_option maxHeartbeats 4000000 in
set_option maxRecDepth 100000 in
theorem kput_low {B : Nat} {w : World} {b d mb : Nat} {O A Od : Nat → Prop} {D : Dc.DM E8} {f : Int → Row} {room mem now soon : Int} (h : SpC B w b d mb O A Od D f room mem now soon) (x : E8) (h1 : ¬ 1024 < x.key.length) (h2 : x.ends < 0) : Refused w b x 1 := by
  have HB := hid (below_alloc w (eob x))
  have h0 := h.below HB.out
  obtain ⟨a0, a1, a2, a3, a4, a5⟩ := h0.facts
  obtain ⟨c0, c1, c2, c3, c4, c5, c6, c7⟩ := ent_facts (ent_new w x)
  have hz : ¬ (1024 : Int) < (x.key.length : Int) := by omega
  clear h h0 h1
  go_enter Tryz.func186, Tryz.ntmps186
  go_wp2_with fail
  go_ret
  exact ⟨rfl, HB.out⟩
set_option maxHeartbeats 4000000 in
set_option maxRecDepth 100000 in
theorem kput_far {B : Nat} {w : World} {b d mb : Nat} {O A Od : Nat → Prop} {D : Dc.DM E8} {f : Int → Row} {room mem now soon : Int} (h : SpC B w b d mb O A Od D f room mem now soon) (x : E8) (h1 : ¬ 1024 < x.key.length) (h2 : ¬ x.ends < 0) (h3 : 1099511627776 < x.ends) : Refused w b x 1 := by
  have HB := hid (below_alloc w (eob x))
  have h0 := h.below HB.out
  obtain ⟨a0, a1, a2, a3, a4, a5⟩ := h0.facts
  obtain ⟨c0, c1, c2, c3, c4, c5, c6, c7⟩ := ent_facts (ent_new w x)
  have hz : ¬ (1024 : Int) < (x.key.length : Int) := by omega
  clear h h0 h1
  go_enter Tryz.func186, Tryz.ntmps186
  go_wp2_with fail
  go_ret
  exact ⟨rfl, HB.out⟩
set_option maxHeartbeats 4000000 in
set_option maxRecDepth 100000 in
theorem kput_over {B : Nat} {w : World} {b d mb : Nat} {O A Od : Nat → Prop} {D : Dc.DM E8} {f : Int → Row} {room mem now soon : Int} (h : SpC B w b d mb O A Od D f room mem now soon) (x : E8) (h1 : ¬ 1024 < x.key.length) (h2 : ¬ x.ends < 0) (h3 : ¬ 1099511627776 < x.ends) (h4 : 0 < x.ends ∧ x.ends ≤ now) : Refused w b x 1 := by
  have HB := hid (below_alloc w (eob x))
  have h0 := h.below HB.out
  obtain ⟨a0, a1, a2, a3, a4, a5⟩ := h0.facts
  obtain ⟨c0, c1, c2, c3, c4, c5, c6, c7⟩ := ent_facts (ent_new w x)
  have hz : ¬ (1024 : Int) < (x.key.length : Int) := by omega
  have HE := hid (kended_any h0 x)
  rw [decide_eq_true h4] at HE
  clear h h0 h1 h4
  go_enter Tryz.func186, Tryz.ntmps186
  go_wp2_with fail
  refine HE.out.mono ?_; rintro e w1 ⟨rfl, hh⟩
  have HB1 := hid (HB.out.trans (hh.out.mono HB.out.size))
  clear hh
  go_wp2_with fail
  go_ret
  exact ⟨rfl, HB1.out⟩
set_option maxHeartbeats 4000000 in
set_option maxRecDepth 100000 in
theorem kput_form {B : Nat} {w : World} {b d mb : Nat} {O A Od : Nat → Prop} {D : Dc.DM E8} {f : Int → Row} {room mem now soon : Int} (h : SpC B w b d mb O A Od D f room mem now soon) (x : E8) (hx : Arg8 x) (h1 : ¬ 1024 < x.key.length) (h2 : ¬ x.ends < 0) (h3 : ¬ 1099511627776 < x.ends) (h4 : ¬ (0 < x.ends ∧ x.ends ≤ now)) (hV : VI w x.m x.pp x.pc x.ip x.ic) (h5 : rightB x.m = false) : Refused w b x 100 := by
  have HB := hid (below_alloc w (eob x))
  have h0 := h.below HB.out
  obtain ⟨a0, a1, a2, a3, a4, a5⟩ := h0.facts
  obtain ⟨c0, c1, c2, c3, c4, c5, c6, c7⟩ := ent_facts (ent_new w x)
  have hz : ¬ (1024 : Int) < (x.key.length : Int) := by omega
  have HE := hid (kended_any h0 x)
  rw [decide_eq_false h4] at HE
  have HX := hid (ent_new w x)
  have HR := hid (fun W (h : VI W x.m x.pp x.pc x.ip x.ic) => pright_any x.m x.pp x.pc x.ip x.ic W hx.came h)
  have HV := hid (hV.below HB.out)
  have HZ : Hid ((w.alloc (eob x)).heap.size = w.heap.size + 1) := by simp [Hid]
  clear h h0 h1 hx h4 hV
  go_enter Tryz.func186, Tryz.ntmps186
  go_wp2_with fail
  refine HE.out.mono ?_; rintro e w1 ⟨rfl, hh⟩
  have HB1 := hid (HB.out.trans (hh.out.mono HB.out.size))
  have hX1 := (hh.out.block w.heap.size (by have := HZ.out; omega)).trans HX.out
  obtain ⟨d0, d1, d2, d3, d4, d5, d6, d7⟩ := ent_facts hX1
  have HR1 := hid (HR.out w1 (HV.out.below hh.out))
  clear hh hX1 c0 c1 c2 c3 c4 c5 c6 c7 a0 a1 a2 a3 a4 a5
  go_wp2_with fail
  refine HR1.out.mono ?_; rintro e w2 ⟨rfl, hh⟩
  have HB2 := hid (HB1.out.trans (hh.out.mono HB1.out.size))
  rw [h5]
  clear hh
  go_wp2_with fail
  go_ret
  exact ⟨rfl, HB2.out⟩

end Go.Proofs.YtcbncdigejjcpaaGreatDoor

namespace Go.Proofs.YtcbncdigejjcpaaGreatDoor
open Go.RowKit

theorem small_put {D : Dc.DM E8} (h : Dc.Small 4096 D) (n : Nm) (v : E8) (hl : (Dc.put1 n v false D.L).length ≤ 4096) : Dc.Small 4096 (Dc.putD D n v) := by
  have h1 := h.rooms
  have h2 := h.left
  unfold Dc.putD Dc.grow
  split
  · rename_i hc
    simp only at hc
    exact ⟨hl, by simp only; omega, by simp only; omega⟩
  · exact ⟨hl, h1, by simp only; omega⟩
/-- an entry is put -/
theorem SpL.put {D : Dc.DM E8} {f f' : Int → Row} {mem mem' : Int} {L : List EP} (h : SpL D f mem L) (x y : E8) (hy : pr8 y = pr8 x) (hx : x.key.length ≤ 1024 ∧ RtV x.m ∧ 0 ≤ x.ends ∧ x.ends ≤ 1099511627776)
    (hl : (insR (pr8 x) (delL x.key L)).length ≤ 4096) (hs : ∀ n, f' n = slotL n (insR (pr8 x) (delL x.key L))) (hm : mem' = (memL (insR (pr8 x) (delL x.key L)) : Int)) :
    SpL (Dc.putD D x.key y) f' mem' (insR (pr8 x) (delL x.key L)) := by
  have hk : y.key = x.key := congrArg Prod.fst hy
  have he : ofD (Dc.put1 x.key y false D.L) = insR (pr8 x) (delL x.key L) := by
    rw [← hk, ofD_put h.key, hy, h.ent]
  refine ⟨by rw [Dc.putD_L]; exact he, by rw [Dc.putD_L, ← hk]; exact keyD_put h.key, by rw [Dc.putD_L]; exact h.srt.put x.key y, hs, hm, fun z hz => ?_, hl, small_put h.small _ _ ?_⟩
  · rcases insR_mem.1 hz with rfl | hz
    · exact hx
    · exact h.good z (delL_mem.1 hz).1
  · have := congrArg List.length he
    simp only [List.length_map] at this
    rw [this]
    exact hl
theorem putEL_arg {L : List EP} {room now : Int} {x : EP} (h : argBadP x now) : putEL L room now x = 1 := by unfold putEL; rw [if_pos h]
theorem putEL_form {L : List EP} {room now : Int} {x : EP} (h : ¬ argBadP x now) (h2 : rightB x.2.1 = false) : putEL L room now x = 100 := by unfold putEL; rw [if_neg h, if_pos h2]
theorem putEL_full {L : List EP} {room now : Int} {x : EP} (h : ¬ argBadP x now) (h2 : rightB x.2.1 = true) (h3 : ((getL x.1 L).isSome = false ∧ 4096 ≤ L.length) ∨ (room < ((memL (delL x.1 L) + tkE x : Nat) : Int) ∧ memL L < memL (delL x.1 L) + tkE x)) : putEL L room now x = 110 := by
  unfold putEL; rw [if_neg h, if_neg (by rw [h2]; decide), if_pos h3]
theorem putEL_ok {L : List EP} {room now : Int} {x : EP} (h : ¬ argBadP x now) (h2 : rightB x.2.1 = true) (h3 : ¬ (((getL x.1 L).isSome = false ∧ 4096 ≤ L.length) ∨ (room < ((memL (delL x.1 L) + tkE x : Nat) : Int) ∧ memL L < memL (delL x.1 L) + tkE x))) : putEL L room now x = 0 := by
  unfold putEL; rw [if_neg h, if_neg (by rw [h2]; decide), if_neg h3]
/-- what Put leaves -/
def PutPost (B : Nat) (w : World) (b d mb : Nat) (O A : Nat → Prop) (L : List EP) (room now soon : Int) (x : E8) (w' : World) : Prop :=
  ∃ O' A' Od' D' f' mem' soon', SpC B w' b d mb O' A' Od' D' f' room mem' now soon' ∧ SpL D' f' mem' (putLL L room now (pr8 x)) ∧ (soon' = soon ∨ soon' = (if 0 < x.ends then min soon x.ends else soon)) ∧ (putEL L room now (pr8 x) = 0 → soon' = (if 0 < x.ends then min soon x.ends else soon)) ∧ Stp w w' O O' A A'
/-- what Put does -/
abbrev PutSp (B : Nat) (w : World) (b d mb : Nat) (O A : Nat → Prop) (L : List EP) (room now soon : Int) (x : E8) : Prop :=
  Calls Tryz.prog 186 #[ptr b, ev x] w fun e w' => e = .returned (.int .i64 (putEL L room now (pr8 x))) ∧ Hid (PutPost B w b d mb O A L room now soon x w')
/-- while Put goes on: the space, the entry's own block, its rows, and those of the one that is there -/
structure PutAt (B : Nat) (w : World) (b d mb : Nat) (O A Od : Nat → Prop) (D : Dc.DM E8) (f : Int → Row) (room mem now soon : Int) (x y : E8) (W : World) : Prop where
  sp : SpC B W b d mb O A Od D f room mem now soon
  blk : W.heap[w.heap.size]? = some (.cells x.cells 51 (0, 0))
  stp : Stp w W O O A A
  old : ∀ k, A k → k < w.heap.size
  lx : Lies (Off O) W x
  ly : Lies (Off O) W y
theorem PutAt.lt {B : Nat} {w : World} {b d mb : Nat} {O A Od : Nat → Prop} {D : Dc.DM E8} {f : Int → Row} {room mem now soon : Int} {x y : E8} {W : World} (h : PutAt B w b d mb O A Od D f room mem now soon x y W) : w.heap.size < W.heap.size := (Array.getElem?_eq_some_iff.1 h.blk).1
theorem PutAt.go {B : Nat} {w : World} {b d mb : Nat} {O A Od : Nat → Prop} {D : Dc.DM E8} {f : Int → Row} {room mem now soon : Int} {x y : E8} {W : World} {W' : World} (h : PutAt B w b d mb O A Od D f room mem now soon x y W) (hb : Below W.heap.size W W') : PutAt B w b d mb O A Od D f room mem now soon x y W' :=
  ⟨h.sp.below hb, (hb.block w.heap.size h.lt).trans h.blk, h.stp.trans (Stp.below hb O A), h.old, h.lx.below hb, h.ly.below hb⟩
theorem PutAt.drew {B : Nat} {w : World} {b d mb : Nat} {O A Od : Nat → Prop} {D : Dc.DM E8} {f : Int → Row} {room mem now soon : Int} {x y : E8} {W : World} (h : PutAt B w b d mb O A Od D f room mem now soon x y W) : PutAt B w b d mb O A Od D f room mem now soon x y W.drew := h.go (Below.refl _ _).drew
theorem PutAt.setMem {B : Nat} {w : World} {b d mb : Nat} {O A Od : Nat → Prop} {D : Dc.DM E8} {f : Int → Row} {room mem now soon : Int} {x y : E8} {W : World} (h : PutAt B w b d mb O A Od D f room mem now soon x y W) (M : Int) : PutAt B w b d mb O A Od D f room M now soon x y (W.setCell ⟨b, 1, none⟩ (.int .i64 M)) := by
  obtain ⟨h1, h2⟩ := h.sp.setMem M
  have hO : O b := (h.sp.own b).2 (.inl rfl)
  have hb := h.old b (h.sp.sub b hO)
  exact ⟨h1, (heap_setCell_other _ _ _ _ (by show w.heap.size ≠ b; omega)).trans h.blk, h.stp.trans h2, h.old, h.lx.keep h2.keep (fun _ h => h), h.ly.keep h2.keep (fun _ h => h)⟩

end Go.Proofs.YtcbncdigejjcpaaGreatDoor
