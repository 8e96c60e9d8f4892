/- KS1, KS2. -/
import Derived.Deep.RegionLaw
import Derived.Test.YtppgifaegnmciaaDoorM31
import Derived.Deep.RegionHeld3
namespace Go.Proofs.YtppgifaegnmciaaDoor
open Go.RowKit

set_option maxHeartbeats 1000000 in
set_option maxRecDepth 100000 in
/-- takes -/
theorem ktakes_any (x : E8) (w : World) (hT : Tab w) (hC : Came x.m) (hk : x.key.length ≤ 140737488351232) (hV : VI w x.m x.pp x.pc x.ip x.ic) :
    Calls Tryd.prog 17 #[ev x] w fun e w' => e = .returned (.int .i64 (tk x : Int)) ∧ Hid (Below w.heap.size w w') := by
  have HA := hid (below_alloc w (eob x))
  have HX := hid (ent_new w x)
  have HV := hid (hV.below HA.out)
  have hkz : (x.key.length : Int) ≤ 140737488351232 := by omega
  have hdl := dumpS_max x.m
  have hdz : ((dumpS x.m).length : Int) ≤ 1000002 := by omega
  have htk : (tk x : Int) = 16 + (x.key.length : Int) + ((dumpS x.m).length : Int) := by unfold tk; omega
  rw [htk]
  have HAd : Hid (Below w.heap.size w (w.alloc (eob x)).drew) := HA.out.drew
  have HVd : Hid (VI (w.alloc (eob x)).drew x.m x.pp x.pc x.ip x.ic) := HV.out.below ((Below.refl _ _).drew)
  have HS := hid (psize_any x.m x.pp x.pc x.ip x.ic _ (hT.env HAd.out) hC HVd.out)
  have hd0 : (0 : Int) ≤ ((dumpS x.m).length : Int) := by omega
  generalize ((dumpS x.m).length : Int) = D at *
  obtain ⟨c0, c1, c2, c3, c4, c5, c6, c7⟩ := ent_facts HX.out
  have hw1 : IntKind.i64.wrap (16 + (x.key.length : Int)) = 16 + (x.key.length : Int) := by rw [IntKind.wrap_i64]; omega
  have hw2 : IntKind.i64.wrap (16 + (x.key.length : Int) + D) = 16 + (x.key.length : Int) + D := by rw [IntKind.wrap_i64]; omega
  clear hT hC hV hk hdl htk
  go_enter Tryd.func17, Tryd.ntmps17
  go_wp2_with fail
  go_region_held3 (fun w' => w'.cell? ⟨w.heap.size, 0, none⟩ = some (txt x.key) ∧ w'.cell? ⟨w.heap.size, 1, none⟩ = some (.int .i64 x.m.kind) ∧ w'.cell? ⟨w.heap.size, 2, none⟩ = some (txt x.m.text) ∧ w'.cell? ⟨w.heap.size, 3, none⟩ = some (.slice x.pp x.m.pairs.length x.pc) ∧ w'.cell? ⟨w.heap.size, 4, none⟩ = some (.slice x.ip x.m.items.length x.ic) ∧ w'.cell? ⟨w.heap.size, 5, none⟩ = some (.int .i64 x.m.px) ∧ w'.cell? ⟨w.heap.size, 6, none⟩ = some (.int .i64 x.m.py))
    (first | exact ⟨c0, c1, c2, c3, c4, c5, c6⟩ | exact ⟨d0, d1, d2, d3, d4, d5, d6⟩ | go_keep)
    (first
      | (go_at_call 31; refine HS.out.mono ?_; rintro e w1 ⟨rfl, hh⟩; have HW1 := hid (HAd.out.trans (hh.out.mono HAd.out.size)); obtain ⟨d0, d1, d2, d3, d4, d5, d6, d7⟩ := ent_facts ((hh.out.block w.heap.size (by simp)).trans HX.out); clear hh))
  all_goals go_wp2_with fail
  all_goals go_ret
  all_goals exact ⟨rfl, HW1.out⟩
theorem ret_ent {fn : Func} {p : Tmp} (h : fn.results = #[.cell p 36]) {tmps : Array Value} {w : World} {b : Nat} {c0 c1 c2 c3 c4 c5 c6 c7 : Value} (hp : tmps.getD p undef = .pointer (some ⟨b, 0, none⟩)) (hB : w.heap[b]? = some (.cells #[c0, c1, c2, c3, c4, c5, c6, c7] 36 (0, 0))) :
    (results fn tmps).run Tryd.prog w = .ok (.agg #[c0, c1, c2, c3, c4, c5, c6, c7]) w := by
  have hp' : tmps[p]?.getD undef = .pointer (some ⟨b, 0, none⟩) := by simpa using hp
  simp [results, h, hp', asAddr, run_loadVar_row w b 36 36 #[c0, c1, c2, c3, c4, c5, c6, c7] (0, 0) _ hB Tryd.underlying36 rfl (infoE _ rfl)]
/-- cells 1 to 6 of an entry are stored -/
theorem set6_ent {W : World} {b : Nat} {c0 c1 c2 c3 c4 c5 c6 c7 : Value} (v1 v2 v3 v4 v5 v6 : Value) (h : W.heap[b]? = some (.cells #[c0, c1, c2, c3, c4, c5, c6, c7] 36 (0, 0))) : ((((((W.setCell ⟨b, 1, none⟩ v1).setCell ⟨b, 2, none⟩ v2).setCell ⟨b, 3, none⟩ v3).setCell ⟨b, 4, none⟩ v4).setCell ⟨b, 5, none⟩ v5).setCell ⟨b, 6, none⟩ v6).heap[b]? = some (.cells #[c0, v1, v2, v3, v4, v5, v6, c7] 36 (0, 0)) := by
  have h1 : (W.setCell ⟨b, 1, none⟩ v1).heap[b]? = some (.cells #[c0, v1, c2, c3, c4, c5, c6, c7] 36 (0, 0)) := heap_setCell_same _ b 1 _ _ _ h
  have h2 : ((W.setCell ⟨b, 1, none⟩ v1).setCell ⟨b, 2, none⟩ v2).heap[b]? = some (.cells #[c0, v1, v2, c3, c4, c5, c6, c7] 36 (0, 0)) := heap_setCell_same _ b 2 _ _ _ h1
  have h3 : (((W.setCell ⟨b, 1, none⟩ v1).setCell ⟨b, 2, none⟩ v2).setCell ⟨b, 3, none⟩ v3).heap[b]? = some (.cells #[c0, v1, v2, v3, c4, c5, c6, c7] 36 (0, 0)) := heap_setCell_same _ b 3 _ _ _ h2
  have h4 : ((((W.setCell ⟨b, 1, none⟩ v1).setCell ⟨b, 2, none⟩ v2).setCell ⟨b, 3, none⟩ v3).setCell ⟨b, 4, none⟩ v4).heap[b]? = some (.cells #[c0, v1, v2, v3, v4, c5, c6, c7] 36 (0, 0)) := heap_setCell_same _ b 4 _ _ _ h3
  have h5 : (((((W.setCell ⟨b, 1, none⟩ v1).setCell ⟨b, 2, none⟩ v2).setCell ⟨b, 3, none⟩ v3).setCell ⟨b, 4, none⟩ v4).setCell ⟨b, 5, none⟩ v5).heap[b]? = some (.cells #[c0, v1, v2, v3, v4, v5, c6, c7] 36 (0, 0)) := heap_setCell_same _ b 5 _ _ _ h4
  exact heap_setCell_same _ b 6 _ _ _ h5
theorem set6_other (W : World) (b k : Nat) (hk : k ≠ b) (v1 v2 v3 v4 v5 v6 : Value) : ((((((W.setCell ⟨b, 1, none⟩ v1).setCell ⟨b, 2, none⟩ v2).setCell ⟨b, 3, none⟩ v3).setCell ⟨b, 4, none⟩ v4).setCell ⟨b, 5, none⟩ v5).setCell ⟨b, 6, none⟩ v6).heap[k]? = W.heap[k]? := by
  rw [heap_setCell_other _ _ _ _ hk, heap_setCell_other _ _ _ _ hk, heap_setCell_other _ _ _ _ hk, heap_setCell_other _ _ _ _ hk, heap_setCell_other _ _ _ _ hk, heap_setCell_other _ _ _ _ hk]
theorem set6_onlyB (W : World) (b : Nat) (v1 v2 v3 v4 v5 v6 : Value) : OnlyB b W ((((((W.setCell ⟨b, 1, none⟩ v1).setCell ⟨b, 2, none⟩ v2).setCell ⟨b, 3, none⟩ v3).setCell ⟨b, 4, none⟩ v4).setCell ⟨b, 5, none⟩ v5).setCell ⟨b, 6, none⟩ v6) := by
  have s1 : ∀ (w : World) (i : Nat) (u : Value), (w.setCell ⟨b, i, none⟩ u).os = w.os := fun _ _ _ => rfl
  have s2 : ∀ (w : World) (i : Nat) (u : Value), (w.setCell ⟨b, i, none⟩ u).tape = w.tape := fun _ _ _ => rfl
  have s3 : ∀ (w : World) (i : Nat) (u : Value), (w.setCell ⟨b, i, none⟩ u).output = w.output := fun _ _ _ => rfl
  have s4 : ∀ (w : World) (i : Nat) (u : Value), (w.setCell ⟨b, i, none⟩ u).heap.size = w.heap.size := fun _ _ _ => by simp
  exact ⟨by rw [s1, s1, s1, s1, s1, s1], by rw [s2, s2, s2, s2, s2, s2], by rw [s3, s3, s3, s3, s3, s3], by rw [s4, s4, s4, s4, s4, s4], fun k hk => set6_other W b k hk v1 v2 v3 v4 v5 v6⟩
theorem set8_onlyB (W : World) (b : Nat) (v0 v1 v2 v3 v4 v5 v6 v7 : Value) : OnlyB b W ((((((((W.setCell ⟨b, 0, none⟩ v0).setCell ⟨b, 1, none⟩ v1).setCell ⟨b, 2, none⟩ v2).setCell ⟨b, 3, none⟩ v3).setCell ⟨b, 4, none⟩ v4).setCell ⟨b, 5, none⟩ v5).setCell ⟨b, 6, none⟩ v6).setCell ⟨b, 7, none⟩ v7) := by
  have s1 : ∀ (w : World) (i : Nat) (u : Value), (w.setCell ⟨b, i, none⟩ u).os = w.os := fun _ _ _ => rfl
  have s2 : ∀ (w : World) (i : Nat) (u : Value), (w.setCell ⟨b, i, none⟩ u).tape = w.tape := fun _ _ _ => rfl
  have s3 : ∀ (w : World) (i : Nat) (u : Value), (w.setCell ⟨b, i, none⟩ u).output = w.output := fun _ _ _ => rfl
  have s4 : ∀ (w : World) (i : Nat) (u : Value), (w.setCell ⟨b, i, none⟩ u).heap.size = w.heap.size := fun _ _ _ => by simp
  have s5 : ∀ (w : World) (i : Nat) (u : Value) (k : Nat), k ≠ b → (w.setCell ⟨b, i, none⟩ u).heap[k]? = w.heap[k]? := fun _ _ _ k hk => heap_setCell_other _ _ _ _ hk
  exact ⟨by rw [s1, s1, s1, s1, s1, s1, s1, s1], by rw [s2, s2, s2, s2, s2, s2, s2, s2], by rw [s3, s3, s3, s3, s3, s3, s3, s3], by rw [s4, s4, s4, s4, s4, s4, s4, s4], fun k hk => by rw [s5 _ _ _ _ hk, s5 _ _ _ _ hk, s5 _ _ _ _ hk, s5 _ _ _ _ hk, s5 _ _ _ _ hk, s5 _ _ _ _ hk, s5 _ _ _ _ hk, s5 _ _ _ _ hk]⟩
theorem OnlyB.below {b n : Nat} {w0 w w' : World} (h : OnlyB b w w') (hb : Below n w0 w) (hn : n ≤ b) : Below n w0 w' := ⟨h.os.trans hb.os, h.tape.trans hb.tape, h.output.trans hb.output, Nat.le_trans hb.size (Nat.le_of_eq h.size.symm), fun k hk => (h.block k (by omega)).trans (hb.block k hk)⟩
/-- an entry of the call's own: its rows are fresh, and may be written -/
structure OwnEn (n : Nat) (w : World) (y : E8) : Prop where
  vi : VI w y.m y.pp y.pc y.ip y.ic
  wt : Wt n w y.pp y.ip y.m.pairs.length y.m.items.length
theorem OwnEn.lies {n : Nat} {w : World} {y : E8} (h : OwnEn n w y) : Lies (fun k => n ≤ k ∧ k < w.heap.size) w y := by
  refine ⟨h.vi, fun hne a ha => ?_, fun hne a ha => ?_⟩
  · obtain ⟨g, o, cs, h1, h2, h3⟩ := h.wt.pairs (List.length_pos_iff.2 hne)
    rw [ha] at h1
    injection h1 with h1
    rw [h1]
    exact ⟨h2, (Array.getElem?_eq_some_iff.1 h3).1⟩
  · obtain ⟨g, o, cs, h1, h2, h3⟩ := h.wt.items (List.length_pos_iff.2 hne)
    rw [ha] at h1
    injection h1 with h1
    rw [h1]
    exact ⟨h2, (Array.getElem?_eq_some_iff.1 h3).1⟩
theorem OwnEn.keep {n : Nat} {w w' : World} {y : E8} (h : OwnEn n w y) (k : Keep (fun k => n ≤ k) w w') : OwnEn n w' y := by
  have hl := (h.lies.keep (Q := fun _ => True) (k.mono (fun i hi => hi.1)) (fun _ _ => trivial)).vi
  refine ⟨hl, fun hne => ?_, fun hne => ?_⟩
  · obtain ⟨g, o, cs, h1, h2, h3⟩ := h.wt.items hne
    exact ⟨g, o, cs, h1, h2, (k.block g (Array.getElem?_eq_some_iff.1 h3).1 h2).trans h3⟩
  · obtain ⟨g, o, cs, h1, h2, h3⟩ := h.wt.pairs hne
    exact ⟨g, o, cs, h1, h2, (k.block g (Array.getElem?_eq_some_iff.1 h3).1 h2).trans h3⟩
theorem OwnEn.mono {n m : Nat} {w : World} {y : E8} (h : OwnEn n w y) (hm : m ≤ n) : OwnEn m w y := by
  refine ⟨h.vi, fun hne => ?_, fun hne => ?_⟩
  · obtain ⟨g, o, cs, h1, h2, h3⟩ := h.wt.items hne
    exact ⟨g, o, cs, h1, by omega, h3⟩
  · obtain ⟨g, o, cs, h1, h2, h3⟩ := h.wt.pairs hne
    exact ⟨g, o, cs, h1, by omega, h3⟩
set_option maxHeartbeats 2000000 in
set_option maxRecDepth 100000 in
/-- own -/
theorem kown_any (x : E8) (w : World) (hR : x.m.pairs.length * 32 ≤ 140737488351232 ∧ x.m.items.length * 16 ≤ 140737488351232) (hV : VI w x.m x.pp x.pc x.ip x.ic) :
    Calls Tryd.prog 20 #[ev x] w fun e w' => ∃ y : E8, e = .returned (ev y) ∧ Hid (pr8 y = pr8 x ∧ OwnEn w.heap.size w' y ∧ Below w.heap.size w w') := by
  have HA := hid (al_two w (eob x) (eob Dc.DE.e80))
  obtain ⟨a0, a1, a2, a3, a4, a5, a6, a7⟩ := ent_facts HA.out.2.1
  have HC := hid (pcopy_any x.m x.pp x.pc x.ip x.ic _ hR (hV.below HA.out.1))
  clear hV hR
  go_enter Tryd.func20, Tryd.ntmps20
  go_wp2_with fail
  refine HC.out.mono ?_; rintro e w1 ⟨pp, pc', ip, ic, rfl, hh⟩
  have hs0 := HA.out.2.2.2
  have hs1 := hh.out.2.2.size
  have hx1 := (hh.out.2.2.block w.heap.size (by rw [hs0]; omega)).trans HA.out.2.1
  have hy1 := (hh.out.2.2.block (w.heap.size + 1) (by rw [hs0]; omega)).trans HA.out.2.2.1
  have HE1 : Hid (OwnEn (w.heap.size + 2) w1 ⟨x.key, x.m, pp, pc', ip, ic, x.ends⟩) := by
    have := (⟨hh.out.1, hh.out.2.1⟩ : OwnEn _ w1 ⟨x.key, x.m, pp, pc', ip, ic, x.ends⟩)
    rw [hs0] at this
    exact this
  have HB1 := hid (HA.out.1.trans (hh.out.2.2.mono HA.out.1.size))
  have HX1 := hid hx1
  have HY1 := hid hy1
  obtain ⟨b0, b1, b2, b3, b4, b5, b6, b7⟩ := ent_facts hx1
  obtain ⟨f0, f1, f2, f3, f4, f5, f6, f7⟩ := ent_frozen hx1
  obtain ⟨r0, r1, r2, r3, r4, r5, r6, r7⟩ := ent_facts hy1
  obtain ⟨g0, g1, g2, g3, g4, g5, g6, g7⟩ := ent_frozen hy1
  clear hh hx1 hy1 a0 a1 a2 a3 a4 a5 a6 a7
  go_wp2_with fail
  have HX2 := hid (set6_ent (.int .i64 x.m.kind) (txt x.m.text) (.slice pp x.m.pairs.length pc') (.slice ip x.m.items.length ic) (.int .i64 x.m.px) (.int .i64 x.m.py) HX1.out)
  have HY2 := hid ((set6_other w1 w.heap.size (w.heap.size + 1) (by omega) (.int .i64 x.m.kind) (txt x.m.text) (.slice pp x.m.pairs.length pc') (.slice ip x.m.items.length ic) (.int .i64 x.m.px) (.int .i64 x.m.py)).trans HY1.out)
  have HO2 := hid (set6_onlyB w1 w.heap.size (.int .i64 x.m.kind) (txt x.m.text) (.slice pp x.m.pairs.length pc') (.slice ip x.m.items.length ic) (.int .i64 x.m.px) (.int .i64 x.m.py))
  refine bodyPost_ret (v := ev ⟨x.key, x.m, pp, pc', ip, ic, x.ends⟩) ?_ rfl ?_
  · exact ret_ent rfl rfl (Dc.DE.set8_same _ _ _ _ _ _ _ _ HY2.out)
  · have HO3 := set8_onlyB ((((((w1.setCell ⟨w.heap.size, 1, none⟩ (.int .i64 x.m.kind)).setCell ⟨w.heap.size, 2, none⟩ (txt x.m.text)).setCell ⟨w.heap.size, 3, none⟩ (.slice pp x.m.pairs.length pc')).setCell ⟨w.heap.size, 4, none⟩ (.slice ip x.m.items.length ic)).setCell ⟨w.heap.size, 5, none⟩ (.int .i64 x.m.px)).setCell ⟨w.heap.size, 6, none⟩ (.int .i64 x.m.py)) (w.heap.size + 1) (txt x.key) (.int .i64 x.m.kind) (txt x.m.text) (.slice pp x.m.pairs.length pc') (.slice ip x.m.items.length ic) (.int .i64 x.m.px) (.int .i64 x.m.py) (.int .i64 x.ends)
    refine ⟨_, rfl, rfl, ?_, ?_⟩
    · exact ((HE1.out.keep (HO2.out.keep (by omega))).keep (HO3.keep (by omega))).mono (by omega)
    · exact HO3.below (HO2.out.below HB1.out (Nat.le_refl _)) (by omega)
theorem ret_bool {a b : Bool} (h : a = b) : Ending.returned (.bool a) = .returned (.bool b) := by rw [h]
set_option maxHeartbeats 1000000 in
set_option maxRecDepth 100000 in
/-- ended -/
theorem kended_any {B : Nat} {w : World} {b d mb : Nat} {O A Od : Nat → Prop} {D : Dc.DM E8} {f : Int → Row} {room mem now soon : Int} (h : SpC B w b d mb O A Od D f room mem now soon) (x : E8) :
    Calls Tryd.prog 15 #[ptr b, ev x] w fun e w' => e = .returned (.bool (decide (0 < x.ends ∧ x.ends ≤ now))) ∧ Hid (Below w.heap.size w w') := by
  have HB := hid (below_alloc w (eob x))
  have h1 := h.below HB.out
  obtain ⟨a0, a1, a2, a3, a4, a5⟩ := h1.facts
  obtain ⟨c0, c1, c2, c3, c4, c5, c6, c7⟩ := ent_facts (ent_new w x)
  clear h h1
  by_cases g1 : 0 < x.ends
  · by_cases g2 : x.ends ≤ now
    · rw [decide_eq_true ⟨g1, g2⟩]
      go_enter Tryd.func15, Tryd.ntmps15
      go_wp2_with fail
      go_region
      all_goals go_wp2_with fail
      all_goals go_ret
      all_goals exact ⟨rfl, HB.out.drew⟩
    · rw [decide_eq_false (fun h => g2 h.2)]
      have hb2 : decide (x.ends ≤ now) = false := decide_eq_false g2
      go_enter Tryd.func15, Tryd.ntmps15
      go_wp2_with fail
      go_region
      all_goals go_wp2_with fail
      all_goals go_ret
      all_goals exact ⟨rfl, HB.out.drew⟩
  · rw [decide_eq_false (fun h => g1 h.1)]
    have hb1 : decide (0 < x.ends) = false := decide_eq_false g1
    go_enter Tryd.func15, Tryd.ntmps15
    go_wp2_with fail
    go_region
    all_goals go_wp2_with fail
    all_goals go_ret
    all_goals exact ⟨rfl, HB.out.drew⟩
set_option maxHeartbeats 1000000 in
set_option maxRecDepth 100000 in
/-- expect -/
theorem kexpect_any {B : Nat} {w : World} {b d mb : Nat} {O A Od : Nat → Prop} {D : Dc.DM E8} {f : Int → Row} {room mem now soon : Int} (h : SpC B w b d mb O A Od D f room mem now soon) (x : E8) :
    Calls Tryd.prog 21 #[ptr b, ev x] w fun e w' => e = .returned (.tuple #[]) ∧ Hid (SpC B w' b d mb O A Od D f room mem now (if 0 < x.ends then min soon x.ends else soon) ∧ Stp w w' O O A A) := by
  have HB := hid (below_alloc w (eob x))
  have h1 := h.below HB.out
  obtain ⟨a0, a1, a2, a3, a4, a5⟩ := h1.facts
  have f3 := h1.frozen 3
  obtain ⟨c0, c1, c2, c3, c4, c5, c6, c7⟩ := ent_facts (ent_new w x)
  have H1 := hid h1
  have H0 := hid h
  have hbl := h.blt.1
  clear h h1
  by_cases g1 : 0 < x.ends
  · rw [if_pos g1]
    have HX := hid (H0.out.setSoon (min soon x.ends))
    have HB2 := hid (below_alloc (w.setCell ⟨b, 3, none⟩ (.int .i64 (min soon x.ends))) (eob x)).drew
    go_enter Tryd.func21, Tryd.ntmps21
    go_wp2_with fail
    go_region
    all_goals go_end0
    all_goals exact ⟨rfl, HX.out.1.below HB2.out, HX.out.2.trans (Stp.below HB2.out O A)⟩
  · rw [if_neg g1]
    go_enter Tryd.func21, Tryd.ntmps21
    go_wp2_with fail
    go_end0
    exact ⟨rfl, H1.out, Stp.below HB.out O A⟩
set_option maxHeartbeats 1000000 in
set_option maxRecDepth 100000 in
theorem kmem_any {B : Nat} {w : World} {b d mb : Nat} {O A Od : Nat → Prop} {D : Dc.DM E8} {f : Int → Row} {room mem now soon : Int} (h : SpC B w b d mb O A Od D f room mem now soon) :
    Calls Tryd.prog 11 #[ptr b] w fun e w' => e = .returned (.int .i64 mem) ∧ Hid (Below w.heap.size w w') := by
  obtain ⟨a0, a1, a2, a3, a4, a5⟩ := h.facts
  clear h
  go_enter Tryd.func11, Tryd.ntmps11
  go_wp2_with fail
  go_ret
  exact ⟨rfl, Below.refl _ _⟩
set_option maxHeartbeats 1000000 in
set_option maxRecDepth 100000 in
theorem klen_any {B : Nat} {w : World} {b d mb : Nat} {O A Od : Nat → Prop} {D : Dc.DM E8} {f : Int → Row} {room mem now soon : Int} (h : SpC B w b d mb O A Od D f room mem now soon) :
    Calls Tryd.prog 8 #[ptr b] w fun e w' => e = .returned (.int .i64 D.L.length) ∧ Hid (Below w.heap.size w w') := by
  obtain ⟨a0, a1, a2, a3, a4, a5⟩ := h.facts
  have HL := hid (Dc.DE.dq_len d Od D w h.dq)
  clear h
  go_enter Tryd.func8, Tryd.ntmps8
  go_wp2_with fail
  refine HL.out.mono ?_; rintro e w1 ⟨rfl, hh⟩
  go_wp2_with fail
  go_ret
  exact ⟨rfl, hh⟩
set_option maxHeartbeats 1000000 in
set_option maxRecDepth 100000 in
/-- Count -/
theorem kcount_any {B : Nat} {w : World} {b d mb : Nat} {O A Od : Nat → Prop} {D : Dc.DM E8} {f : Int → Row} {room mem now soon : Int} (h : SpC B w b d mb O A Od D f room mem now soon) (n : Int) (hn : In64 n) :
    Calls Tryd.prog 14 #[ptr b, .int .i64 n] w fun e w' => e = .returned (.int .i64 (f n).length) ∧ Hid (Below w.heap.size w w') := by
  obtain ⟨a0, a1, a2, a3, a4, a5⟩ := h.facts
  obtain ⟨v, hv, p, c, rfl, -, -⟩ := h.map.look hn
  generalize (f n).length = k at *
  clear h
  go_enter Tryd.func14, Tryd.ntmps14
  go_wp2_with fail
  go_ret
  exact ⟨rfl, Below.refl _ _⟩

end Go.Proofs.YtppgifaegnmciaaDoor

namespace Go.Proofs.YtppgifaegnmciaaDoor
open Go.RowKit

/-- a row that is laid here -/
theorem rd_lit (w : World) (l : Row) : Rd (w.alloc (.cells (l.map txt).toArray 9)) (some ⟨w.heap.size, 0, none⟩) l.length l :=
  ⟨fun _ => ⟨w.heap.size, 0, rfl, fun i hi => by rw [cell_of_row _ _ _ _ _ _ (heap_alloc_new w _)]; simp [hi]⟩, (fun h => by cases h), Nat.le_refl _⟩
set_option maxHeartbeats 1000000 in
set_option maxRecDepth 100000 in
/-- sets.With -/
theorem with_any (p : Option Addr) (c : Nat) (l : Row) (s : Nm) (w : World) (h : Rd w p c l) (hl : l.length ≤ 1000000) (hr : Ris l) : TellsOwn 38 #[.slice p l.length c, txt s] w (insAll l [s]) := by
  have hb := below_alloc w (.cells #[txt s] 9)
  have HU := hid (union_any p c l (some ⟨w.heap.size, 0, none⟩) 1 [s] (w.alloc (.cells #[txt s] 9)) (h.below hb) (rd_lit w [s]) (by omega) (by simp) hr (List.pairwise_singleton _ _))
  have HB := hid hb
  generalize insAll l [s] = L at *
  generalize l.length = n at *
  clear h hr hb
  go_enter Tryd.func38, Tryd.ntmps38
  go_wp2_with fail
  refine HU.out.mono ?_; rintro e w1 ⟨q, d, rfl, hh⟩
  go_wp2_with fail
  go_ret
  refine ⟨q, d, rfl, hh.out.1, fun hne => ?_, HB.out.trans (hh.out.2.2.mono HB.out.size)⟩
  obtain ⟨g, o, h1, h2, h3⟩ := hh.out.2.1 hne
  exact ⟨g, o, h1, by have := HB.out.size; omega, h3⟩
theorem step_mapUpdate_run {P : Program} {ops : Array Oper} {o : Oper} {a : Act} {w : World} {K : Act → World → Prop} {Q : Exit → Act → World → Prop} {E : Prop} (hw : Region.wanted o (yielded ops a.tmps) = true) (m x v : Operand) (t : TypeId)
    (ho : o.op = .mapUpdate t m x v) (mv xv vv : Value) (w' : World) (hm : a.eval m = mv) (hx : a.eval x = xv) (hv : a.eval v = vv)
    (hrun : (Instr.mapUpdate t mv xv vv).run P w = .ok () w') (h : K (a.put o.dst undef) w') : if Region.wanted o (yielded ops a.tmps) = true then o.wp P a w K Q else E := by
  rw [if_pos hw]
  unfold Oper.wp
  simp [execOp, ho, hm, hx, hv, hrun, Result.andThen]
  exact h
/-- a row that a call told is put into the map -/
theorem SpC.put_row {B : Nat} {w w1 : World} {b d mb : Nat} {O A Od : Nat → Prop} {D : Dc.DM E8} {f : Int → Row} {room mem now soon : Int} (h : SpC B w b d mb O A Od D f room mem now soon) {n : Int} (hn : In64 n) {q : Option Addr} {e : Nat} {l : Row}
    (hr : Rd w1 q e l) (hw : Lw w.heap.size w1 q l) (hb : Below w.heap.size w w1) : ∃ w' A', (Instr.mapUpdate 45 (.map (some mb)) (.int .i64 n) (.slice q l.length e)).run Tryd.prog w1 = .ok () w' ∧ SpC B w' b d mb O A' Od D (updF f n l) room mem now soon ∧ Stp w w' O O A A' := by
  have h1 := h.below hb
  have hO : O mb := (h.own mb).2 (.inr (.inl rfl))
  have hnO : ∀ k, w.heap.size ≤ k → ¬ O k := fun k hk ho => by have := (h.lt k (h.sub k ho)).2; omega
  have hrw : Rw (fun k => (A k ∨ (w.heap.size ≤ k ∧ k < w1.heap.size)) ∧ ¬ O k) w1 (.slice q l.length e) l := by
    refine ⟨q, e, rfl, hr, fun hne a ha => ?_⟩
    obtain ⟨g, o, h2, h3, h4⟩ := hw hne
    rw [ha] at h2
    injection h2 with h2
    obtain ⟨⟨v, hv⟩, _⟩ := h4 0 (List.length_pos_iff.2 hne)
    rw [h2]
    exact ⟨.inr ⟨h3, block_lt_of_cell hv⟩, hnO g h3⟩
  obtain ⟨w', hrun, hm, ho⟩ := (h1.map.keep (Q := fun k => (A k ∨ (w.heap.size ≤ k ∧ k < w1.heap.size)) ∧ ¬ O k) (Keep.refl _ _) (fun k hk => ⟨.inl hk.1, hk.2⟩) rfl).store (fun hP => hP.2 hO) hn _ l hrw
  refine ⟨w', _, hrun, h1.mapd _ hm ho (fun k hk => ⟨by have := h.blt; omega, hk.2⟩), ?_⟩
  refine ⟨?_, fun k hk => .inl hk, fun k hk => ?_⟩
  · exact (Keep.of_below hb).trans ⟨ho.os, ho.tape, ho.output, Nat.le_of_eq ho.size.symm, fun k _ hk => ho.block k (fun e => hk (e ▸ hO))⟩
  · exact hk.imp id (·.1)
set_option maxHeartbeats 2000000 in
set_option maxRecDepth 100000 in
/-- enter -/
theorem kenter_any {B : Nat} {w : World} {b d mb : Nat} {O A Od : Nat → Prop} {D : Dc.DM E8} {f : Int → Row} {room mem now soon : Int} (h : SpC B w b d mb O A Od D f room mem now soon) (k : Nm) (hk : k.length ≤ 140737488351232) (hl : (f (slotOf k)).length ≤ 1000000) (hr : Ris (f (slotOf k))) :
    Calls Tryd.prog 22 #[ptr b, txt k] w fun e w' => e = .returned (.tuple #[]) ∧ Hid (∃ A', SpC B w' b d mb O A' Od D (updF f (slotOf k) (insAll (f (slotOf k)) [k])) room mem now soon ∧ Stp w w' O O A A') := by
  have hsl : slotOf k < 16384 := Nat.mod_lt _ (by decide)
  have hn : In64 (slotOf k : Int) := by constructor <;> omega
  have HN := hid hn
  have HO := hid (of_any k w h.tab (by have := h.env.lt; have := h.env.size; omega) (by omega))
  have H := hid h
  have HL := hid hl
  have HR := hid hr
  obtain ⟨n, hnn⟩ : ∃ n : Int, n = (slotOf k : Int) := ⟨_, rfl⟩
  rw [← hnn] at HN HO HL HR ⊢
  clear h hn hl hr hk hsl hnn
  go_enter Tryd.func22, Tryd.ntmps22
  go_wp2_with fail
  refine HO.out.mono ?_; rintro e w1 ⟨rfl, hb⟩
  have h1 := H.out.below hb.out.drew
  have HS1 := hid (Stp.below hb.out.drew O A)
  obtain ⟨a0, a1, a2, a3, a4, a5⟩ := h1.facts
  obtain ⟨p, c, hrd, -, hlk⟩ := h1.map.look2 HN.out
  have hlk1 := hlk w1.drew rfl
  have hlk0 := hlk w1 rfl
  have HW := hid (with_any p c (f n) k w1.drew hrd HL.out HR.out)
  have HP : Hid (∀ w2 q e, Rd w2 q e (insAll (f n) [k]) → Lw w1.drew.heap.size w2 q (insAll (f n) [k]) → Below w1.drew.heap.size w1.drew w2 → ∃ w' A', (Instr.mapUpdate 45 (.map (some mb)) (.int .i64 n) (.slice q (insAll (f n) [k]).length e)).run Tryd.prog w2 = .ok () w' ∧ SpC B w' b d mb O A' Od D (updF f n (insAll (f n) [k])) room mem now soon ∧ Stp w1.drew w' O O A A') := fun w2 q e r1 r2 r3 => h1.put_row HN.out r1 r2 r3
  have H1 := hid h1
  clear hb h1 hrd hlk
  go_wp2_with fail
  go_region_law (first
    | (go_simp; go_at_call 38; refine HW.out.mono ?_; rintro e w2 ⟨q, d2, rfl, hh⟩; obtain ⟨w3, A3, hrun, hsp, hst⟩ := HP.out w2 q d2 hh.out.1 hh.out.2.1 hh.out.2.2; have HE := hid (And.intro hsp (HS1.out.trans hst)); have e5 := (H1.out.below hh.out.2.2).facts.2.2.2.2.2; clear hh hsp hst))
  all_goals go_end0
  all_goals exact ⟨rfl, A3, HE.out⟩
theorem updF_twice (f : Int → Row) (n : Int) (l m : Row) : updF (updF f n l) n m = updF f n m := by
  funext x
  unfold updF
  split <;> rfl
theorem SpC.del_row {B : Nat} {w : World} {b d mb : Nat} {O A Od : Nat → Prop} {D : Dc.DM E8} {f : Int → Row} {room mem now soon : Int} (h : SpC B w b d mb O A Od D f room mem now soon) {n : Int} (hn : In64 n) (ty : TypeId) :
    ∃ w', (Builtin.delete_ #[45, 3] ty #[.map (some mb), .int .i64 n]).run Tryd.prog w = .ok (.tuple #[]) w' ∧ SpC B w' b d mb O (fun k => A k ∨ False) Od D (updF f n []) room mem now soon ∧ Stp w w' O O A (fun k => A k ∨ False) := by
  have hO : O mb := (h.own mb).2 (.inr (.inl rfl))
  obtain ⟨w', hrun, hm, ho⟩ := (h.map.keep (Q := fun k => (A k ∨ False) ∧ ¬ O k) (Keep.refl _ _) (fun k hk => ⟨.inl hk.1, hk.2⟩) rfl).drop (fun hP => hP.2 hO) hn ty
  refine ⟨w', hrun, h.mapd (fun _ => False) hm ho (fun k hk => hk.elim), ⟨ho.os, ho.tape, ho.output, Nat.le_of_eq ho.size.symm, fun k _ hk => ho.block k (fun e => hk (e ▸ hO))⟩, fun k hk => .inl hk, fun k hk => ?_⟩
  rcases hk with hk | hk
  · exact .inl hk
  · exact hk.elim
end Go.Proofs.YtppgifaegnmciaaDoor
