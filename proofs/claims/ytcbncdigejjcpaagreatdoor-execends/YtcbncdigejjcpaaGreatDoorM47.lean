/- XI, XJ, XK, YD. -/
import Derived.Test.YtcbncdigejjcpaaGreatDoorM45
import Derived.Test.YtcbncdigejjcpaaGreatDoorM44
import Derived.Test.YtcbncdigejjcpaaGreatDoorM15
namespace Go.Proofs.YtcbncdigejjcpaaGreatDoor.Ex
open Re (Rep)
open Go.RowKit

theorem tl_rd {P : Nat → Prop} {w : World} {p : Option Addr} {n c : Nat} {l : Row} (h : Tl P w (.slice p n c) l) : Rd w p c l ∧ (l ≠ [] → ∀ a, p = some a → P a.block ∧ a.block < w.heap.size) := by
  rcases h with ⟨h1, rfl⟩ | ⟨g, o, c', h1, h2, h3, h4, h5⟩
  · injection h1 with e1 e2 e3
    subst e1 e2 e3
    exact ⟨Rd.nilRow w, fun h => absurd rfl h⟩
  · injection h1 with e1 e2 e3
    subst e1 e2 e3
    exact ⟨⟨fun _ => ⟨g, o, rfl, h5⟩, (fun h => by cases h), h2⟩, fun _ a ha => by injection ha with ha; subst ha; exact ⟨h3, h4⟩⟩
theorem rd_keep {P : Nat → Prop} {w w' : World} {p : Option Addr} {c : Nat} {l : Row} (h : Rd w p c l) (hp : l ≠ [] → ∀ a, p = some a → P a.block) (k : Keep P w w') : Rd w' p c l := ⟨strs_keep h.strs hp k, h.nil, h.cap⟩
theorem keep_cell (w : World) (f i : Nat) (v : Value) : Keep (fun k => k ≠ f) w (w.setCell ⟨f, i, none⟩ v) := ⟨rfl, rfl, rfl, by simp, fun _ _ h => heap_setCell_other w ⟨f, i, none⟩ _ v h⟩
theorem one_fact {w : World} {b : Nat} {t : TypeId} {x : Value} (h : w.heap[b]? = some (.cells #[x] t (0, 0))) : w.cell? ⟨b, 0, none⟩ = some x := cell_of_row w b 0 _ _ _ h
set_option maxHeartbeats 4000000 in
set_option maxRecDepth 100000 in
/-- lookRow -/
theorem lookRow_any {B : Nat} {w : World} {b : Nat} {O A : Nat → Prop} {L : List EP} {room now : Int} (h : Sp B w b O A L room now) (nm : Nm) (g o n c : Nat) (k : Nm) (F : Nat) (cb : Array Value) (l' : Row) (r : Rep) (eg : ∀ args w, (callFunc F args).run Tryz.prog w = .ok (.enter F args) w) (hn : 0 < n) (hk : w.cell? ⟨g, o, none⟩ = some (txt k)) (hkl : k.length ≤ 140737488351232)
    (hD : otherK L k 3 = false → RowDo w F cb (curV L k 3).items l' r) :
    Calls Tryz.prog 91 #[cv b nm (some ⟨g, o, none⟩) n c, .func (.func F) #[] cb] w fun e w' => ∃ q d, e = .returned (rval (if otherK L k 3 then fault fType else r) q d) ∧ Hid (Re.Rp (fun k => w.heap.size ≤ k) w' 2 (rval (if otherK L k 3 then fault fType else r) q d) (if otherK L k 3 then fault fType else r) ∧ Below w.heap.size w w') := by
  have HA := hid (al_three w (cob b nm (some ⟨g, o, none⟩) n c) (.cells #[.func (.func F) #[] cb] 124) rob0)
  have hk0 := cell_turn hk (HA.out.1.block g (block_lt_of_cell hk))
  have HL := hid (look_any (h.below HA.out.1) nm g o n c k 3 163 #[pt (w.heap.size + 1)] r (enters_of Tryz.func163 (by kernel_rfl) rfl) hn hk0 hkl (fun hok W y hb hy hoy => by
    have hm : y.m = curV L k 3 := congrArg (fun e => e.2.1) hy
    have hcr := cur_right h k 3 hok
    rw [← hm] at hcr
    have hDD := hD hok
    rw [← hm] at hDD
    rw [HA.out.2.2.2.2] at hb
    exact lookRow_1 y.m y.pp y.pc y.ip y.ic (isIn L k) W w (w.heap.size + 1) F cb l' r (HA.out.1.trans (hb.mono (by omega))) eg (cell_turn (one_fact HA.out.2.2.1) (hb.block (w.heap.size + 1) (by omega))) hoy.vi.items hcr.2.2.1 hDD))
  obtain ⟨R, hR⟩ : ∃ R, R = (if otherK L k 3 then fault fType else r) := ⟨_, rfl⟩
  rw [← hR] at HL ⊢
  clear hR h hk hD hk0 eg
  go_enter Tryz.func91, Tryz.ntmps91
  go_wp2_with fail
  refine HL.out.mono ?_; rintro e w1 ⟨q, d, rfl, hh⟩
  have hs0 := HA.out.2.2.2.2
  have HB1 := hid (HA.out.1.trans (hh.out.2.mono HA.out.1.size))
  have HZ1 := hid ((hh.out.2.block (w.heap.size + 2) (by omega)).trans HA.out.2.2.2.1)
  have HP1 := hid hh.out.1
  rw [hs0] at HP1
  clear hh HL
  go_wp2_with (refine wpList_store_row rfl 32 _ _ rfl (w.heap.size + 2) #[.int .i64 R.kind, .int .i64 R.int, txt R.text, .slice q R.list.length d] rfl rfl 32 _ HZ1.out (Re.infoRep _ _ _ _) rfl (one_r _ _ _) ?_)
  refine bodyPost_ret (v := rval R q d) ?_ rfl ?_
  · exact Re.ret_rep1 rfl rfl (setRow_heap w1 _ _ _ _ _ HZ1.out)
  · exact ⟨q, d, rfl, HP1.out.turn (fun j hj _ => ⟨by omega, setRow_other _ _ _ _ (by omega)⟩) (Nat.le_refl _), Re.below_setRow HB1.out (by omega) _⟩
set_option maxHeartbeats 4000000 in
set_option maxRecDepth 100000 in
theorem changeRow_1 (w : World) (tb F : Nat) (cb : Array Value) (is : Bool) (x : EP) (l' : Row) (r : Rep) (eg : ∀ args w, (callFunc F args).run Tryz.prog w = .ok (.enter F args) w) (ht : w.cell? ⟨tb, 0, none⟩ = some (.func (.func F) #[] cb)) (w00 : World) (hw00 : Below w00.heap.size w00 w) (hx : x.2.1.pairs = [] ∧ x.2.1.items.length ≤ 256) (hD : RowDo w00 F cb x.2.1.items l' r) :
    Work w 160 #[pt tb] is x ⟨x.2.1.kind, x.2.1.text, x.2.1.pairs, l', x.2.1.px, x.2.1.py⟩ r := by
  intro N W be y hN hb hbe hE hy hoy
  subst hy
  dsimp only at hx hD ⊢
  have htl : tb < w.heap.size := block_lt_of_cell ht
  have HB := hid hb
  have hbl := (Array.getElem?_eq_some_iff.1 hE).1
  have HE := hid hE
  have HA := hid (below_alloc W rob0)
  have HZ := hid (heap_alloc_new W rob0)
  have ht0 := cell_turn ht ((HA.out.block tb (by have := hb.size; omega)).trans (hb.block tb htl))
  have HE0 := hid ((HA.out.block be hbl).trans hE)
  have HR := hid (rowOf_any y.ip y.ic y.m.items (W.alloc rob0) (hoy.vi.items.below HA.out) hx.2)
  have HX := hid hx.1
  have HD := hid hD
  have HO := hid hoy
  have HT := hid ht
  have H00 := hid hw00
  have hsW : (W.alloc rob0).heap.size = W.heap.size + 1 := by simp
  obtain ⟨e0, e1, e2, e3, e4, e5, e6, e7⟩ := ent_facts HE0.out
  clear hE hoy hD ht hb hw00 ht0 hx
  show Calls Tryz.prog 160 #[.pointer (some ⟨be, 1, none⟩), .bool is, pt tb] W _
  go_enter Tryz.func160, Tryz.ntmps160
  go_wp2_with fail
  refine HR.out.mono ?_; rintro e w1 ⟨g, rfl, hh⟩
  obtain ⟨hg, hd, hb1⟩ := hh.out
  rw [hsW] at hg
  have hs1 : W.heap.size + 1 ≤ w1.heap.size := by have := hb1.size; omega
  have HB1 := hid (HB.out.trans ((HA.out.trans (hb1.mono HA.out.size)).mono HB.out.size))
  have HW1 := hid (HA.out.trans (hb1.mono HA.out.size))
  have HE1 := hid ((hb1.block be (by omega)).trans HE0.out)
  have HZ1 := hid ((hb1.block W.heap.size (by omega)).trans HZ.out)
  have ht1 := cell_turn HT.out (HB1.out.block tb htl)
  have HGL1 := hid (dq_lt hd)
  have HC := hid (HD.out (W.heap.size + 1) w1 g (by have := HB.out.size; have := H00.out.size; omega) (H00.out.trans (HB1.out.mono H00.out.size)) hg hd)
  clear hh hd hb1 e0 e1 e2 e3 e4 e5 e6 e7
  go_wp2_with fail
  refine HC.out.mono ?_; rintro e w2 ⟨q, d, rfl, hh⟩
  obtain ⟨lx, hr2, hd2, hl2, hb2⟩ := hh.out
  have hs2 : w1.heap.size ≤ w2.heap.size := hb2.size
  have HBR := hid (below_alloc w2 (rob r q d))
  have HR3 := hid (al_rep w2 r q d)
  have HE3 := hid ((HBR.out.block be (by omega)).trans ((hb2.block be (by omega)).trans HE1.out))
  have HZ3 := hid ((HBR.out.block W.heap.size (by omega)).trans ((hb2.block W.heap.size (by omega)).trans HZ1.out))
  have HB2 := hid (HW1.out.trans (hb2.mono (by omega)))
  have HB3 := hid (HB2.out.trans (HBR.out.mono HB2.out.size))
  have HD3 := hid (dq_below hd2 HBR.out)
  have HRP := hid (hr2.below HBR.out (Nat.le_refl _))
  have HLX := hid hl2
  have HGL := hid (dq_lt hd2)
  have hs3 : (w2.alloc (rob r q d)).heap.size = w2.heap.size + 1 := by simp
  have HG := hid (Dk.range_any g lx 0 (-1) (w2.alloc (rob r q d)) HD3.out (by decide) (by decide) (by decide) (by decide))
  rw [Dk.rangeL_all] at HG
  clear hh hr2 hd2 hl2 hb2 ht1 HC
  go_wp2_with fail
  refine HG.out.mono ?_; rintro e w4 ⟨p4, c4, rfl, hh⟩
  obtain ⟨ht4, hd4, hk4⟩ := hh.out
  have hs4 : w2.heap.size + 1 ≤ w4.heap.size := by have := hk4.size; omega
  have HE4 := hid ((hk4.block be (by omega) (by show be ≠ g; omega)).trans HE3.out)
  have HZ4 := hid ((hk4.block W.heap.size (by omega) (by show W.heap.size ≠ g; omega)).trans HZ3.out)
  have hgr : g < w2.heap.size := HGL.out
  have HR4 := hid ((hk4.block w2.heap.size (by omega) (by show w2.heap.size ≠ g; omega)).trans HR3.out)
  have HT4 := hid ht4
  have HB4 := hid (HB3.out.trans ((keep_below (N := W.heap.size) hk4 (by omega) (by omega))))
  have HRP4 := hid (HRP.out.turn (w' := w4) (Q := fun k => w1.heap.size ≤ k) (fun j hj hl => ⟨hj, hk4.block j hl (by show j ≠ g; have := HGL1.out; omega)⟩) (Nat.le_refl _))
  clear hh ht4 hd4 hk4 HG
  obtain ⟨e0, e1, e2, e3, e4, e5, e6, e7⟩ := ent_facts HE4.out
  obtain ⟨f0, f1, f2, f3, f4, f5, f6, f7⟩ := ent_frozen HE4.out
  have HR5 := hid ((heap_setCell_other w4 ⟨be, 4, none⟩ w2.heap.size (.slice p4 lx.length c4) (by show w2.heap.size ≠ be; omega)).trans HR4.out)
  have HZ5 := hid ((heap_setCell_other w4 ⟨be, 4, none⟩ W.heap.size (.slice p4 lx.length c4) (by show W.heap.size ≠ be; omega)).trans HZ4.out)
  have HE5 : Hid ((w4.setCell ⟨be, 4, none⟩ (.slice p4 lx.length c4)).heap[be]? = some (.cells (⟨y.key, ⟨y.m.kind, y.m.text, y.m.pairs, lx, y.m.px, y.m.py⟩, y.pp, y.pc, p4, c4, y.ends⟩ : E8).cells 51 (0, 0))) := heap_setCell_same w4 be 4 _ _ _ HE4.out
  go_wp2_with (first
    | (refine wpList_load_row rfl 32 _ rfl w2.heap.size rfl 32 _ (0, 0) _ HR5.out Tryz.underlying32 rfl (Re.infoRep _ _ _ _) ?_)
    | (refine wpList_store_row rfl 32 _ _ rfl W.heap.size #[.int .i64 r.kind, .int .i64 r.int, txt r.text, .slice q r.list.length d] rfl rfl 32 _ HZ5.out (Re.infoRep _ _ _ _) rfl (one_r _ _ _) ?_))
  refine bodyPost_ret (v := rval r q d) ?_ rfl ?_
  · exact Re.ret_rep1 rfl rfl (setRow_heap _ _ _ _ _ _ HZ5.out)
  · have k5 := keep_cell w4 be 4 (.slice p4 lx.length c4)
    have k6 := keep_row (w4.setCell ⟨be, 4, none⟩ (.slice p4 lx.length c4)) W.heap.size #[.int .i64 r.kind, .int .i64 r.int, txt r.text, .slice q r.list.length d]
    have kk : Keep (fun k => k ≠ be ∧ k ≠ W.heap.size) w4 _ := (k5.mono (fun j (hj : j ≠ be ∧ j ≠ W.heap.size) => hj.1)).trans (k6.mono (fun j hj => hj.2))
    have ht := tl_rd HT4.out
    refine ⟨q, d, rfl, ⟨y.key, ⟨y.m.kind, y.m.text, y.m.pairs, lx, y.m.px, y.m.py⟩, y.pp, y.pc, p4, c4, y.ends⟩, HRP4.out.turn (fun j hj hl => ⟨by omega, kk.block j hl ⟨by omega, by omega⟩⟩) (Nat.le_refl _), (setRow_other _ _ _ _ (by omega)).trans HE5.out, fun hf => by rw [HLX.out hf], ⟨⟨⟨fun hne => absurd HX.out hne, HO.out.vi.pairs.nil, HO.out.vi.pairs.cap⟩, rd_keep ht.1 (fun hne a ha => ⟨by have : (w2.alloc (rob r q d)).heap.size ≤ a.block := (ht.2 hne a ha).1; rw [hs3] at this; show a.block ≠ be; omega, by have : (w2.alloc (rob r q d)).heap.size ≤ a.block := (ht.2 hne a ha).1; rw [hs3] at this; show a.block ≠ W.heap.size; omega⟩) kk⟩, fun hne => absurd HX.out hne, fun hne a ha => by have : (w2.alloc (rob r q d)).heap.size ≤ a.block := (ht.2 hne a ha).1; rw [hs3] at this; omega⟩, ?_⟩
    exact ⟨kk.os.trans HB4.out.os, kk.tape.trans HB4.out.tape, kk.output.trans HB4.out.output, Nat.le_trans HB4.out.size kk.size, fun i hi => (kk.block i (by omega) ⟨by omega, by omega⟩).trans (HB4.out.block i (by omega))⟩
set_option maxHeartbeats 4000000 in
set_option maxRecDepth 100000 in
/-- changeRow -/
theorem changeRow_any {B : Nat} {w : World} {b : Nat} {O A : Nat → Prop} {L : List EP} {room now : Int} (h : Sp B w b O A L room now) (nm : Nm) (g o n c : Nat) (k : Nm) (F : Nat) (cb : Array Value) (l' : Row) (r : Rep) (eg : ∀ args w, (callFunc F args).run Tryz.prog w = .ok (.enter F args) w) (hn : 0 < n) (hk : w.cell? ⟨g, o, none⟩ = some (txt k)) (hkl : k.length ≤ 140737488351232)
    (hD : otherK L k 3 = false → RowDo w F cb (curV L k 3).items l' r) (hm : otherK L k 3 = false → r.kind ≠ 2 → l'.length ≤ 1000 ∧ ∀ x ∈ l', x.length ≤ 140737488351232) :
    Calls Tryz.prog 85 #[cv b nm (some ⟨g, o, none⟩) n c, .func (.func F) #[] cb] w fun e w' => ∃ q d, e = .returned (rval (chM L room now k 3 (listV l') r).2 q d) ∧ Hid (Post B (fun k => w.heap.size ≤ k) w b O A room now (chM L room now k 3 (listV l') r).1 (chM L room now k 3 (listV l') r).2 w' (rval (chM L room now k 3 (listV l') r).2 q d)) := by
  have HA := hid (al_three w (cob b nm (some ⟨g, o, none⟩) n c) (.cells #[.func (.func F) #[] cb] 124) rob0)
  have hk0 := cell_turn hk (HA.out.1.block g (block_lt_of_cell hk))
  have HS := hid h
  have HL := hid (change_any (h.below HA.out.1) nm g o n c k 3 160 #[pt (w.heap.size + 1)] (listV l') r (enters_of Tryz.func160 (by kernel_rfl) rfl) hn hk0 hkl (fun hok => by
    have hcr := cur_right h k 3 hok
    have := changeRow_1 (((w.alloc (cob b nm (some ⟨g, o, none⟩) n c)).alloc (.cells #[.func (.func F) #[] cb] 124)).alloc rob0) (w.heap.size + 1) F cb (isIn L k) (k, curV L k 3, endOf L k) l' r eg (one_fact HA.out.2.2.1) w HA.out.1 ⟨hcr.2.1.1 (by decide), hcr.2.2.1⟩ (hD hok)
    dsimp only at this
    rw [hcr.1, hcr.2.1.1 (by decide), hcr.2.1.2.2.1 (by decide), (hcr.2.1.2.2.2 (by decide)).1, (hcr.2.1.2.2.2 (by decide)).2] at this
    exact this) (fun hok hf => ⟨⟨Nat.zero_le _, by have := (hm hok hf).1; show l'.length ≤ _; omega, Nat.zero_le _, (fun x hx => by cases hx), (fun x hx => by cases hx), (hm hok hf).2, (by show In64 3; decide), (by show In64 0; decide), (by show In64 0; decide)⟩, (by show 0 * 32 ≤ _; omega), (by have := (hm hok hf).1; show l'.length * 16 ≤ _; omega), (by show emptyV (listV l') = _; unfold emptyV listV; simp)⟩))
  obtain ⟨C, hC⟩ : ∃ C, C = chM L room now k 3 (listV l') r := ⟨_, rfl⟩
  rw [← hC] at HL ⊢
  clear hC h hk hD hk0 eg hm
  go_enter Tryz.func85, Tryz.ntmps85
  go_wp2_with fail
  refine HL.out.mono ?_; rintro e w1 ⟨q, d, rfl, hh⟩
  have hs0 := HA.out.2.2.2.2
  have HH := hid hh.out
  have HZ1 := hid ((show w1.heap[w.heap.size + 2]? = _ by
    obtain ⟨O', A', _, h2, _⟩ := HH.out.ex
    exact own_block' HS.out h2 (w.heap.size + 2) (by omega) (by omega)).trans HA.out.2.2.2.1)
  clear hh HL
  go_wp2_with (refine wpList_store_row rfl 32 _ _ rfl (w.heap.size + 2) #[.int .i64 C.2.kind, .int .i64 C.2.int, txt C.2.text, .slice q C.2.list.length d] rfl rfl 32 _ HZ1.out (Re.infoRep _ _ _ _) rfl (one_r _ _ _) ?_)
  refine bodyPost_ret (v := rval C.2 q d) ?_ rfl ?_
  · exact Re.ret_rep1 rfl rfl (setRow_heap w1 _ _ _ _ _ HZ1.out)
  · exact ⟨q, d, rfl, Post.set HH.out HS.out HA.out.1 (w.heap.size + 2) (by omega) (by omega) (fun j hj => ⟨by omega, by omega⟩) (keep_row _ _ _)⟩

end Go.Proofs.YtcbncdigejjcpaaGreatDoor.Ex

namespace Go.Proofs.YtcbncdigejjcpaaGreatDoor.Ex
open Re (Rep)
open Go.RowKit

theorem dq_len {w : World} {g : Nat} {l : Row} (h : Dk.Dq w g l) : l.length ≤ 256 := by
  obtain ⟨cs, f, h1, h2, h3, h4, h5⟩ := h
  exact h5.len
set_option maxHeartbeats 4000000 in
set_option maxRecDepth 100000 in
theorem row_range (w : World) (l : Row) (fb tb : Nat) (f t : Int) (hf : In64 f) (ht : In64 t) (hx1 : w.cell? ⟨fb, 0, none⟩ = some (.int .i64 f)) (hx2 : w.cell? ⟨tb, 0, none⟩ = some (.int .i64 t)) (hL : ∀ x ∈ l, x.length ≤ 140737488351232) : RowDo w 94 #[pt fb, pt tb] l (l) (bulksR (Dk.rangeL l f t)) := by
  intro N W g hN hb hg hD
  have hgl : g < W.heap.size := dq_lt hD
  have HA := hid (below_alloc W rob0)
  have HZ := hid (heap_alloc_new W rob0)
  have HB := hid hb
  have hsW : (W.alloc rob0).heap.size = W.heap.size + 1 := by simp
  have x1 := cell_turn hx1 ((HA.out.block fb (by have := hb.size; have : fb < w.heap.size := block_lt_of_cell hx1; omega)).trans (hb.block fb (block_lt_of_cell hx1)))
  have x2 := cell_turn hx2 ((HA.out.block tb (by have := hb.size; have : tb < w.heap.size := block_lt_of_cell hx2; omega)).trans (hb.block tb (block_lt_of_cell hx2)))
  have hll := dq_len hD
  have HO := hid (Dk.range_any g l f t (W.alloc rob0) (dq_below hD HA.out) hf.1 hf.2 ht.1 ht.2)
  obtain ⟨R, hR⟩ : ∃ R, R = bulksR (Dk.rangeL l f t) := ⟨_, rfl⟩
  rw [← hR]
  have HF := hid (trivial)
  have HRR := hid hR
  clear hR hb hD
  go_enter Tryz.func94, Tryz.ntmps94
  go_wp2_with fail
  refine HO.out.mono ?_; rintro e w1 ⟨p1, c1, rfl, hh⟩
  obtain ⟨ht1, hd1, hk1⟩ := hh.out
  have hs1 : W.heap.size + 1 ≤ w1.heap.size := by have := hk1.size; omega
  have HZ1 := hid ((hk1.block W.heap.size (by omega) (by show W.heap.size ≠ g; omega)).trans HZ.out)
  have HB1 := hid ((HA.out.mono (show N ≤ W.heap.size by omega)).trans (keep_below (N := N) hk1 hg (by omega)))
  have HD1 := hid hd1
  have HM := hid (list_any p1 (Dk.rangeL l f t) c1 w1 (tl_rd ht1).1.strs (by have := Dk.rangeL_le l f t; omega) (fun x hx => hL x (List.mem_of_mem_drop (List.mem_of_mem_take hx))))
  rw [← HRR.out] at HM
  clear hh hd1 hk1 HO ht1
  go_wp2_with fail
  refine HM.out.mono ?_; rintro e w2 ⟨q, d, rfl, hh⟩
  have HZ2 := hid ((hh.out.2.block W.heap.size (by omega)).trans HZ1.out)
  have HB2 := hid (HB1.out.trans (hh.out.2.mono (by omega)))
  have HD2 := hid (dq_below HD1.out hh.out.2)
  have HP2 := hid hh.out.1
  clear hh
  go_wp2_with (refine wpList_store_row rfl 32 _ _ rfl W.heap.size #[.int .i64 R.kind, .int .i64 R.int, txt R.text, .slice q R.list.length d] rfl rfl 32 _ HZ2.out (Re.infoRep _ _ _ _) rfl (one_r _ _ _) ?_)
  refine bodyPost_ret (v := rval R q d) ?_ rfl ?_
  · exact Re.ret_rep1 rfl rfl (setRow_heap w2 _ _ _ _ _ HZ2.out)
  · exact ⟨q, d, rfl, l, HP2.out.turn (fun j hj _ => ⟨by omega, setRow_other _ _ _ _ (by omega)⟩) (Nat.le_refl _), dq_turn HD2.out (setRow_other _ _ _ _ (by omega)), fun _ => rfl, Re.below_setRow HB2.out (by omega) _⟩

end Go.Proofs.YtcbncdigejjcpaaGreatDoor.Ex

namespace Go.Proofs.YtcbncdigejjcpaaGreatDoor.Ex
open Re (Rep)
open Go.RowKit

/-- what is answered behind pushes -/
def pushR (front : Bool) (l ts : Row) : Rep := match pushM front l ts with
  | none => fault fLong
  | some l' => wholeR (l'.length : Int)
theorem push_yes {front : Bool} {l : Row} {s : Nm} (h : l.length < 256) : Dk.pushB l = true ∧ Dk.pushL l front s = (if front then s :: l else l ++ [s]) := by
  unfold Dk.pushB Dk.pushL
  exact ⟨decide_eq_true h, if_neg (by omega)⟩
theorem pushM_cons {front : Bool} {l r : Row} {s : Nm} : pushM front l (s :: r) = if 256 ≤ l.length then none else pushM front (if front then s :: l else l ++ [s]) r := rfl
set_option maxHeartbeats 8000000 in
set_option maxRecDepth 100000 in
theorem row_push (w : World) (l ts : Row) (cblk fb b : Nat) (nm : Nm) (ga oa ca : Nat) (front : Bool) (hc : w.heap[cblk]? = some (cob b nm (some ⟨ga, oa, none⟩) (ts.length + 1) ca)) (hf : w.cell? ⟨fb, 0, none⟩ = some (.bool front)) (hts : ts ≠ []) (hca : ts.length + 1 ≤ ca) (hn : ts.length ≤ 63) (hts2 : ∀ i (h : i < ts.length), w.cell? ⟨ga, oa + 1 + i, none⟩ = some (txt ts[i])) :
    RowDo w 86 #[pt cblk, pt fb] l ((pushM front l ts).getD []) (pushR front l ts) := by
  intro N W g hN hb hg hD
  have hgl : g < W.heap.size := dq_lt hD
  have hpos : 0 < ts.length := List.length_pos_iff.2 hts
  have hgal : ga < w.heap.size := block_lt_of_cell (hts2 0 hpos)
  have HA := hid (below_alloc W rob0)
  have HZ := hid (heap_alloc_new W rob0)
  have hsW : (W.alloc rob0).heap.size = W.heap.size + 1 := by simp
  have HB0 := hid (hb.trans (HA.out.mono hb.size))
  have hcl : cblk < w.heap.size := (Array.getElem?_eq_some_iff.1 hc).1
  have hfl : fb < w.heap.size := block_lt_of_cell hf
  obtain ⟨x0, x1, x2⟩ := call_facts ((HB0.out.block cblk hcl).trans hc)
  have hc1 : ¬ ca = 1 := by omega
  have hnz : (ts.length : Int) ≤ 63 := by omega
  have HD := hid (dq_below hD HA.out)
  have HF := hid hf
  have HTS := hid hts2
  have HP := hid (fun g L s W h => Dk.push_any g L front s W h)
  have HL := hid (fun g L W h => Dk.len_any g L W h)
  have HBW := hid hb
  obtain ⟨R, hR⟩ : ∃ R, R = pushR front l ts := ⟨_, rfl⟩
  obtain ⟨lr, hlr⟩ : ∃ lr, lr = (pushM front l ts).getD [] := ⟨_, rfl⟩
  rw [← hR, ← hlr]
  have HR := hid hR
  have HLR := hid hlr
  clear hR hlr hD hf hts2 hts hc hb hca hn hpos
  show Calls Tryz.prog 86 #[pt g, pt cblk, pt fb] W _
  go_enter Tryz.func86, Tryz.ntmps86
  go_wp2_with fail
  go_loopw [11] (fun v11 W' => ∃ (i : Nat) (li : Row), v11 = .int .i64 i ∧ i ≤ ts.length ∧ Hid (Dk.Dq W' g li) ∧ Hid (pushM front li (ts.drop i) = pushM front l ts) ∧ Hid (W'.heap[W.heap.size]? = some rob0) ∧ Hid (Below N W W') ∧ W.heap.size + 1 ≤ W'.heap.size) (fun v11 _ => ts.length - (intOf v11).toNat)
  case atStart => exact ⟨0, l, rfl, Nat.zero_le _, HD.out, rfl, HZ.out, HA.out.mono (by omega), by simp⟩
  case round =>
    obtain ⟨i, li, rfl, hi, HDi, HPi, HZi, HBi, hsi⟩ := hrel
    have HBw := hid (HBW.out.trans (HBi.out.mono hN))
    by_cases hlt : i < ts.length
    · have hiz : (i : Int) < (ts.length : Int) := by omega
      have hci := cell_turn (HTS.out i hlt) (HBw.out.block ga hgal)
      have hfi := cell_turn HF.out (HBw.out.block fb hfl)
      have hdr : ts.drop i = ts[i] :: ts.drop (i + 1) := List.drop_eq_getElem_cons hlt
      rw [hdr, pushM_cons] at HPi
      clear hdr
      generalize ts[i] = s at *
      by_cases hfull : li.length < 256
      · obtain ⟨hy1, hy2⟩ := push_yes (front := front) (s := s) hfull
        have HP1 := hid (HP.out g li s wr HDi.out)
        rw [hy1, hy2] at HP1
        rw [if_neg (by omega)] at HPi
        clear hy1 hy2 hfull
        go_wp2_with fail
        refine HP1.out.mono ?_; rintro e w2 ⟨rfl, hh⟩
        obtain ⟨hd2, hk2⟩ := hh.out
        have HD2 := hid hd2
        have hs2 := hk2.size
        have HZ2 := hid ((hk2.block W.heap.size (by omega) (by show W.heap.size ≠ g; omega)).trans HZi.out)
        have HB2 := hid (HBi.out.trans (keep_below (N := N) hk2 hg (by omega)))
        clear hh hd2 hk2
        go_wp2_with fail
        exact ⟨⟨i + 1, _, by go_num, by omega, HD2.out, HPi.out, HZ2.out, HB2.out, by omega⟩, by simp [intOf]; omega⟩
      · have hno : Dk.pushB li = false := by unfold Dk.pushB; exact decide_eq_false hfull
        have HP1 := hid (HP.out g li s wr HDi.out)
        rw [hno] at HP1
        rw [if_pos (by omega)] at HPi
        obtain rfl : R = fault fLong := by rw [HR.out]; unfold pushR; rw [← HPi.out]
        clear hno hfull
        go_wp2_with fail
        refine HP1.out.mono ?_; rintro e w2 ⟨rfl, hh⟩
        obtain ⟨hd2, hk2⟩ := hh.out
        have HD2 := hid hd2
        have hs2 := hk2.size
        have HZ2 := hid ((hk2.block W.heap.size (by omega) (by show W.heap.size ≠ g; omega)).trans HZi.out)
        have HB2 := hid (HBi.out.trans (keep_below (N := N) hk2 hg (by omega)))
        have HW := hid (wrong_any fLong w2)
        clear hh hd2 hk2
        go_wp2_with fail
        refine HW.out.mono ?_; rintro e w3 ⟨rfl, hb⟩
        have HZ3 := hid ((hb.out.block W.heap.size (by omega)).trans HZ2.out)
        have HB3 := hid (HB2.out.trans (hb.out.mono (by omega)))
        have HD3 := hid (dq_below HD2.out hb.out)
        clear hb
        go_wp2_with (refine wpList_store_row rfl 32 _ _ rfl W.heap.size #[.int .i64 (fault fLong).kind, .int .i64 (fault fLong).int, txt (fault fLong).text, .slice none (fault fLong).list.length 0] rfl rfl 32 _ HZ3.out (Re.infoRep _ _ _ _) rfl (one_r _ _ _) ?_)
        refine bodyPost_ret (v := rval (fault fLong) none 0) ?_ rfl ?_
        · exact Re.ret_rep1 rfl rfl (setRow_heap w3 _ _ _ _ _ HZ3.out)
        · exact ⟨none, 0, rfl, _, rp_flat (fit_fault (by decide)).1 (fit_fault (by decide)).2, dq_turn HD3.out (setRow_other _ _ _ _ (by omega)), (fun h => absurd rfl h), Re.below_setRow HB3.out (by omega) _⟩
    · have et : ts.drop i = [] := List.drop_eq_nil_of_le (by omega)
      rw [et] at HPi
      have hll := dq_len HDi.out
      obtain rfl : R = wholeR (li.length : Int) := by rw [HR.out]; unfold pushR; rw [← HPi.out]; rfl
      have HLe : Hid (lr = li) := by unfold Hid; rw [HLR.out, ← HPi.out]; rfl
      have HL1 := hid (HL.out g li wr HDi.out)
      clear et
      go_wp2_with fail
      refine HL1.out.mono ?_; rintro e w2 ⟨rfl, hh⟩
      obtain ⟨hd2, hk2⟩ := hh.out
      have HD2 := hid hd2
      have hs2 := hk2.size
      have HZ2 := hid ((hk2.block W.heap.size (by omega) (by show W.heap.size ≠ g; omega)).trans HZi.out)
      have HB2 := hid (HBi.out.trans (keep_below (N := N) hk2 hg (by omega)))
      have HW := hid (number_any (li.length : Int) w2)
      clear hh hd2 hk2
      go_wp2_with fail
      refine HW.out.mono ?_; rintro e w3 ⟨rfl, hb⟩
      have HZ3 := hid ((hb.out.block W.heap.size (by omega)).trans HZ2.out)
      have HB3 := hid (HB2.out.trans (hb.out.mono (by omega)))
      have HD3 := hid (dq_below HD2.out hb.out)
      clear hb
      go_wp2_with (refine wpList_store_row rfl 32 _ _ rfl W.heap.size #[.int .i64 (wholeR (li.length : Int)).kind, .int .i64 (wholeR (li.length : Int)).int, txt (wholeR (li.length : Int)).text, .slice none (wholeR (li.length : Int)).list.length 0] rfl rfl 32 _ HZ3.out (Re.infoRep _ _ _ _) rfl (one_r _ _ _) ?_)
      refine bodyPost_ret (v := rval (wholeR (li.length : Int)) none 0) ?_ rfl ?_
      · exact Re.ret_rep1 rfl rfl (setRow_heap w3 _ _ _ _ _ HZ3.out)
      · exact ⟨none, 0, rfl, _, rp_flat (fit_num ⟨by omega, by omega⟩).1 (fit_num ⟨by omega, by omega⟩).2, dq_turn HD3.out (setRow_other _ _ _ _ (by omega)), fun _ => HLe.out.symm, Re.below_setRow HB3.out (by omega) _⟩

end Go.Proofs.YtcbncdigejjcpaaGreatDoor.Ex

namespace Go.Proofs.YtcbncdigejjcpaaGreatDoor.Ex
open Re (Rep)
open Go.RowKit

theorem tell_in (l : Nm) : In64 (Num.tellV l) := by
  unfold Num.tellV
  by_cases hf : (Num.formed l && Num.fits l) = true
  · rw [if_pos hf]
    have h := (Bool.and_eq_true_iff.1 hf).2
    unfold Num.fits at h
    unfold Num.num
    cases hn : Num.neg l
    · rw [hn] at h
      have := of_decide_eq_true (show decide _ = true from h)
      exact ⟨by show _ ≤ ((Num.val (Num.digs l) : Nat) : Int); omega, by show ((Num.val (Num.digs l) : Nat) : Int) ≤ _; omega⟩
    · rw [hn] at h
      have := of_decide_eq_true (show decide _ = true from h)
      exact ⟨by show _ ≤ -((Num.val (Num.digs l) : Nat) : Int); omega, by show -((Num.val (Num.digs l) : Nat) : Int) ≤ _; omega⟩
  · rw [if_neg hf]; decide
set_option maxHeartbeats 8000000 in
set_option maxRecDepth 100000 in
theorem a24 (k a t : Nm) : Ans 46 cLRANGE [k, a, t] (fun _ _ L => if Num.tellE t ≠ 0 ∨ Num.tellE a ≠ 0 then (L, fault fNumber) else (L, if otherK L k 3 then fault fType else bulksR (Dk.rangeL (curV L k 3).items (Num.tellV a) (Num.tellV t)))) := by
  intro B w b O A L room now hS p c hR hT hlen hO
  dsimp only
  obtain ⟨g, o, rfl, hc⟩ := hR.strs (List.cons_ne_nil _ _)
  have h0 : w.cell? ⟨g, o, none⟩ = some (txt k) := hc 0 (by simp)
  have H0 := hid h0
  have h1 : w.cell? ⟨g, o + 1, none⟩ = some (txt a) := hc 1 (by simp)
  have H1 := hid h1
  have h2 : w.cell? ⟨g, o + 2, none⟩ = some (txt t) := hc 2 (by simp)
  have H2 := hid h2
  have hl0 : k.length ≤ 140737488351232 := hT k (by simp)
  have hgl : g < w.heap.size := block_lt_of_cell h0
  have hcap : 3 ≤ c := hR.cap
  have HS := hid hS
  have HA := hid (al_four w (cob b cLRANGE (some ⟨g, o, none⟩) 3 c) rob0 (.cells #[.int .i64 0] 3) (.cells #[.int .i64 0] 3))
  have HN := hid (fun (s : Nm) (W : World) => Num.parse_any s W)
  have k0 := cell_turn h0 (HA.out.1.block g hgl)
  have k1 := cell_turn h1 (HA.out.1.block g hgl)
  have k2 := cell_turn h2 (HA.out.1.block g hgl)
  obtain ⟨C, hC⟩ : ∃ C, C = (if Num.tellE t ≠ 0 ∨ Num.tellE a ≠ 0 then (L, fault fNumber) else (L, if otherK L k 3 then fault fType else bulksR (Dk.rangeL (curV L k 3).items (Num.tellV a) (Num.tellV t)))) := ⟨_, rfl⟩
  rw [← hC]
  have HC := hid hC
  have hva := tell_in a
  obtain ⟨Va, hVa⟩ : ∃ V, V = Num.tellV a := ⟨_, rfl⟩
  obtain ⟨Ea, hEa⟩ : ∃ E, E = Num.tellE a := ⟨_, rfl⟩
  have HNa := hid (HN.out a)
  rw [← hVa, ← hEa] at HNa HC
  rw [← hVa] at hva
  have hvt := tell_in t
  obtain ⟨Vt, hVt⟩ : ∃ V, V = Num.tellV t := ⟨_, rfl⟩
  obtain ⟨Et, hEt⟩ : ∃ E, E = Num.tellE t := ⟨_, rfl⟩
  have HNt := hid (HN.out t)
  rw [← hVt, ← hEt] at HNt HC
  rw [← hVt] at hvt
  clear hC hS hR hT hO hlen hc h0 h1 h2 hVa hEa hVt hEt HN
  go_enter Tryz.func46, Tryz.ntmps46
  go_wp2_with fail
  have HB0 := hid HA.out.1
  have hs0 : w.heap.size + 4 ≤ ((((w.alloc (cob b cLRANGE (some ⟨g, o, none⟩) 3 c)).alloc rob0).alloc (.cells #[.int .i64 0] 3)).alloc (.cells #[.int .i64 0] 3)).heap.size := Nat.le_of_eq HA.out.2.2.2.2.2.symm
  have HC0 := hid HA.out.2.1
  have HZ0 := hid HA.out.2.2.1
  have HY20 := hid HA.out.2.2.2.1
  have HY30 := hid HA.out.2.2.2.2.1
  clear k0 k1 k2
  generalize ((((w.alloc (cob b cLRANGE (some ⟨g, o, none⟩) 3 c)).alloc rob0).alloc (.cells #[.int .i64 0] 3)).alloc (.cells #[.int .i64 0] 3)) = w0 at HB0 hs0 HC0 HZ0 HY20 HY30 ⊢
  clear HA
  refine (HNt.out w0).mono ?_; rintro e w1 ⟨rfl, hb⟩
  have HB1 := hid (HB0.out.trans (hb.out.mono HB0.out.size))
  have hs1 : w.heap.size + 4 ≤ w1.heap.size := Nat.le_trans hs0 hb.out.size
  have HZ1 := hid ((hb.out.block (w.heap.size + 1) (by omega)).trans HZ0.out)
  have HC1 := hid ((hb.out.block w.heap.size (by omega)).trans HC0.out)
  have HY21 := hid ((hb.out.block (w.heap.size + 2) (by omega)).trans HY20.out)
  have HY31 := hid ((hb.out.block (w.heap.size + 3) (by omega)).trans HY30.out)
  clear hb
  obtain ⟨x0, x1, x2⟩ := call_facts HC1.out
  have y2 := one_fact HY21.out
  have y3 := one_fact HY31.out
  have z2 := frozen_of_row _ _ 0 _ _ HY21.out
  have z3 := frozen_of_row _ _ 0 _ _ HY31.out
  have k0 := cell_turn H0.out (HB1.out.block g hgl)
  have k1 := cell_turn H1.out (HB1.out.block g hgl)
  have k2 := cell_turn H2.out (HB1.out.block g hgl)
  have HB2 := hid (keep_one HB1.out (keep_cell w1 (w.heap.size + 3) 0 (.int .i64 Vt)) (by omega) HB1.out.size)
  have HC2 := hid ((heap_setCell_other w1 ⟨w.heap.size + 3, 0, none⟩ w.heap.size (.int .i64 Vt) (by show w.heap.size ≠ w.heap.size + 3; omega)).trans HC1.out)
  have HZ2 := hid ((heap_setCell_other w1 ⟨w.heap.size + 3, 0, none⟩ (w.heap.size + 1) (.int .i64 Vt) (by show w.heap.size + 1 ≠ w.heap.size + 3; omega)).trans HZ1.out)
  have HY32 : Hid ((w1.setCell ⟨w.heap.size + 3, 0, none⟩ (.int .i64 Vt)).heap[w.heap.size + 3]? = some (.cells #[.int .i64 Vt] 3 (0, 0))) := heap_setCell_same w1 (w.heap.size + 3) 0 _ _ _ HY31.out
  have HY22 := hid ((heap_setCell_other w1 ⟨w.heap.size + 3, 0, none⟩ (w.heap.size + 2) (.int .i64 Vt) (by show w.heap.size + 2 ≠ w.heap.size + 3; omega)).trans HY21.out)
  have hs2 : w.heap.size + 4 ≤ (w1.setCell ⟨w.heap.size + 3, 0, none⟩ (.int .i64 Vt)).heap.size := by simp; omega
  by_cases het : Et = 0
  · subst het
    go_wp2_with fail
    generalize w1.setCell ⟨w.heap.size + 3, 0, none⟩ (.int .i64 Vt) = w2 at HB2 HC2 HZ2 HY22 HY32 hs2 ⊢
    clear x0 x1 x2 y2 y3 z2 z3 k0 k1 k2
    obtain ⟨x0, x1, x2⟩ := call_facts HC2.out
    have y2 := one_fact HY22.out
    have y3 := one_fact HY32.out
    have z2 := frozen_of_row _ _ 0 _ _ HY22.out
    have z3 := frozen_of_row _ _ 0 _ _ HY32.out
    have k0 := cell_turn H0.out (HB2.out.block g hgl)
    have k1 := cell_turn H1.out (HB2.out.block g hgl)
    have k2 := cell_turn H2.out (HB2.out.block g hgl)
    refine (HNa.out w2).mono ?_; rintro e w3 ⟨rfl, hb⟩
    have HB3 := hid (HB2.out.trans (hb.out.mono HB2.out.size))
    have hs3 : w.heap.size + 4 ≤ w3.heap.size := Nat.le_trans hs2 hb.out.size
    have HZ3 := hid ((hb.out.block (w.heap.size + 1) (by omega)).trans HZ2.out)
    have HC3 := hid ((hb.out.block w.heap.size (by omega)).trans HC2.out)
    have HY23 := hid ((hb.out.block (w.heap.size + 2) (by omega)).trans HY22.out)
    have HY33 := hid ((hb.out.block (w.heap.size + 3) (by omega)).trans HY32.out)
    clear hb
    clear x0 x1 x2 y2 y3 z2 z3 k0 k1 k2
    obtain ⟨x0, x1, x2⟩ := call_facts HC3.out
    have y2 := one_fact HY23.out
    have y3 := one_fact HY33.out
    have z2 := frozen_of_row _ _ 0 _ _ HY23.out
    have z3 := frozen_of_row _ _ 0 _ _ HY33.out
    have k0 := cell_turn H0.out (HB3.out.block g hgl)
    have k1 := cell_turn H1.out (HB3.out.block g hgl)
    have k2 := cell_turn H2.out (HB3.out.block g hgl)
    have HB4 := hid (keep_one HB3.out (keep_cell w3 (w.heap.size + 2) 0 (.int .i64 Va)) (by omega) HB3.out.size)
    have HC4 := hid ((heap_setCell_other w3 ⟨w.heap.size + 2, 0, none⟩ w.heap.size (.int .i64 Va) (by show w.heap.size ≠ w.heap.size + 2; omega)).trans HC3.out)
    have HZ4 := hid ((heap_setCell_other w3 ⟨w.heap.size + 2, 0, none⟩ (w.heap.size + 1) (.int .i64 Va) (by show w.heap.size + 1 ≠ w.heap.size + 2; omega)).trans HZ3.out)
    have HY24 : Hid ((w3.setCell ⟨w.heap.size + 2, 0, none⟩ (.int .i64 Va)).heap[w.heap.size + 2]? = some (.cells #[.int .i64 Va] 3 (0, 0))) := heap_setCell_same w3 (w.heap.size + 2) 0 _ _ _ HY23.out
    have HY34 := hid ((heap_setCell_other w3 ⟨w.heap.size + 2, 0, none⟩ (w.heap.size + 3) (.int .i64 Va) (by show w.heap.size + 3 ≠ w.heap.size + 2; omega)).trans HY33.out)
    have hs4 : w.heap.size + 4 ≤ (w3.setCell ⟨w.heap.size + 2, 0, none⟩ (.int .i64 Va)).heap.size := by simp; omega
    by_cases hea : Ea = 0
    · subst hea
      have hCC : C = (L, if otherK L k 3 then fault fType else bulksR (Dk.rangeL (curV L k 3).items (Va) (Vt))) := by rw [HC.out, if_neg (by simp)]
      have k0' := cell_turn H0.out (HB4.out.block g hgl)
      have HL := hid (lookRow_any (HS.out.below HB4.out) cLRANGE g o 3 c k 94 #[pt (w.heap.size + 2), pt (w.heap.size + 3)] (curV L k 3).items (bulksR (Dk.rangeL (curV L k 3).items (Va) (Vt))) (enters_of Tryz.func94 (by kernel_rfl) rfl) (by omega) k0' hl0 (fun _ => row_range _ (curV L k 3).items (w.heap.size + 2) (w.heap.size + 3) Va Vt hva hvt (one_fact HY24.out) (one_fact HY34.out) (cur_came HS.out k 3 (by decide)).texts))
      obtain ⟨R, hR⟩ : ∃ R, R = C.2 := ⟨_, rfl⟩
      rw [show (if otherK L k 3 then fault fType else bulksR (Dk.rangeL (curV L k 3).items (Va) (Vt))) = R by rw [hR, hCC]] at HL
      obtain rfl : C = (L, R) := by rw [hR, hCC]
      clear hCC k0' hR HC
      go_wp2_with fail
      refine HL.out.mono ?_; rintro e w9 ⟨q, d, rfl, hh⟩
      have HB9 := hid (HB4.out.trans (hh.out.2.mono HB4.out.size))
      have HZ9 := hid ((hh.out.2.block (w.heap.size + 1) (by omega)).trans HZ4.out)
      have HP9 := hid hh.out.1
      clear hh HL
      go_wp2_with (refine wpList_store_row rfl 32 _ _ rfl (w.heap.size + 1) #[.int .i64 R.kind, .int .i64 R.int, txt R.text, .slice q R.list.length d] rfl rfl 32 _ HZ9.out (Re.infoRep _ _ _ _) rfl (one_r _ _ _) ?_)
      refine bodyPost_ret (v := rval R q d) ?_ rfl ?_
      · exact Re.ret_rep1 rfl rfl (setRow_heap w9 _ _ _ _ _ HZ9.out)
      · exact ⟨q, d, rfl, Post.quiet HS.out (Re.below_setRow HB9.out (by omega) _) (HP9.out.turn (fun j hj _ => ⟨by omega, setRow_other _ _ _ _ (by omega)⟩) (Nat.le_refl _)) (fun _ h => h)⟩
    · obtain rfl : C = (L, fault fNumber) := by rw [HC.out, if_pos (.inr hea)]
      have heb : (Ea == 0) = false := beq_eq_false_iff_ne.2 hea
      clear hea
      have HW := hid (wrong_any fNumber (w3.setCell ⟨w.heap.size + 2, 0, none⟩ (.int .i64 Va)))
      go_wp2_with fail
      refine HW.out.mono ?_; rintro e w9 ⟨rfl, hb⟩
      have HB9 := hid (HB4.out.trans (hb.out.mono HB4.out.size))
      have HZ9 := hid ((hb.out.block (w.heap.size + 1) (by omega)).trans HZ4.out)
      clear hb
      go_wp2_with (refine wpList_store_row rfl 32 _ _ rfl (w.heap.size + 1) #[.int .i64 (fault fNumber).kind, .int .i64 (fault fNumber).int, txt (fault fNumber).text, .slice none (fault fNumber).list.length 0] rfl rfl 32 _ HZ9.out (Re.infoRep _ _ _ _) rfl (one_r _ _ _) ?_)
      refine bodyPost_ret (v := rval (fault fNumber) none 0) ?_ rfl ?_
      · exact Re.ret_rep1 rfl rfl (setRow_heap w9 _ _ _ _ _ HZ9.out)
      · exact ⟨none, 0, rfl, Post.quiet HS.out (Re.below_setRow HB9.out (by omega) _) (rp_flat (fit_fault (by decide)).1 (fit_fault (by decide)).2) (fun _ h => h)⟩
  · obtain rfl : C = (L, fault fNumber) := by rw [HC.out, if_pos (.inl het)]
    have heb : (Et == 0) = false := beq_eq_false_iff_ne.2 het
    clear het
    have HW := hid (wrong_any fNumber (w1.setCell ⟨w.heap.size + 3, 0, none⟩ (.int .i64 Vt)))
    go_wp2_with fail
    refine HW.out.mono ?_; rintro e w9 ⟨rfl, hb⟩
    have HB9 := hid (HB2.out.trans (hb.out.mono HB2.out.size))
    have HZ9 := hid ((hb.out.block (w.heap.size + 1) (by omega)).trans HZ2.out)
    clear hb
    go_wp2_with (refine wpList_store_row rfl 32 _ _ rfl (w.heap.size + 1) #[.int .i64 (fault fNumber).kind, .int .i64 (fault fNumber).int, txt (fault fNumber).text, .slice none (fault fNumber).list.length 0] rfl rfl 32 _ HZ9.out (Re.infoRep _ _ _ _) rfl (one_r _ _ _) ?_)
    refine bodyPost_ret (v := rval (fault fNumber) none 0) ?_ rfl ?_
    · exact Re.ret_rep1 rfl rfl (setRow_heap w9 _ _ _ _ _ HZ9.out)
    · exact ⟨none, 0, rfl, Post.quiet HS.out (Re.below_setRow HB9.out (by omega) _) (rp_flat (fit_fault (by decide)).1 (fit_fault (by decide)).2) (fun _ h => h)⟩
end Go.Proofs.YtcbncdigejjcpaaGreatDoor.Ex
