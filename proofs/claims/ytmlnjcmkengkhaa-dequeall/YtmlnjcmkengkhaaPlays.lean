/- Calls on a deque and on the document's row, side by side: the law's plays. -/
import Derived.Test.YtmlnjcmkengkhaaDoes
namespace Go.Proofs.Ytmlnjcmkengkhaa
open Go.RowKit

/-- where calls lie -/
def Ops (P : Nat → Prop) (w : World) (p : Option Addr) (l : List OpL) : Prop := l ≠ [] → ∃ g o, p = some ⟨g, o, none⟩ ∧ P g ∧ ∀ i (h : i < l.length),
  w.cell? ⟨g, o + i * 5, none⟩ = some (.int .i64 l[i].kind) ∧ w.cell? ⟨g, o + i * 5 + 1, none⟩ = some (.int .i64 l[i].a) ∧ w.cell? ⟨g, o + i * 5 + 2, none⟩ = some (.int .i64 l[i].b) ∧ w.cell? ⟨g, o + i * 5 + 3, none⟩ = some (.bool l[i].front) ∧ w.cell? ⟨g, o + i * 5 + 4, none⟩ = some (txt l[i].s)
theorem Ops.keep {P Q : Nat → Prop} {w w' : World} {p : Option Addr} {l : List OpL} (h : Ops P w p l) (k : Keep P w w') (hq : ∀ i, P i → Q i) : Ops Q w' p l := fun hne => by
  obtain ⟨g, o, h1, h2, h3⟩ := h hne
  have hpos : 0 < l.length := List.length_pos_iff.2 hne
  have hb := k.block g (block_lt_of_cell (h3 0 hpos).1) h2
  exact ⟨g, o, h1, hq g h2, fun i hi => ⟨cell_turn (h3 i hi).1 hb, cell_turn (h3 i hi).2.1 hb, cell_turn (h3 i hi).2.2.1 hb, cell_turn (h3 i hi).2.2.2.1 hb, cell_turn (h3 i hi).2.2.2.2 hb⟩⟩
theorem runL_take {L : Row} {ops : List OpL} {i : Nat} (h : i < ops.length) : runL L (ops.take (i + 1)) = doR (runL L (ops.take i)) ops[i] := by
  rw [List.take_succ_eq_append_getElem h, runL_snoc]
theorem doA_len (l : Row) (o : OpL) (h : l.length ≤ 256) : (doA l o).list.length ≤ 256 := by
  unfold doA
  repeat' split
  all_goals first | exact Nat.zero_le _ | exact Nat.le_trans (rangeL_le l _ _) h
set_option maxHeartbeats 4000000 in
set_option maxRecDepth 100000 in
/-- plays -/
theorem plays_any {Dq : World → Nat → Row → Prop} (M : Meth Dq) (Q : Nat → Prop) (b : Nat) (L : Row) (v : Value) (p : Option Addr) (ops : List OpL) (cp : Nat) (w : World) (hD : Dq w b L) (h : Tl Q w v L) (hO : Ops (But b) w p ops) (hF : ∀ o ∈ ops, OpFit o) (hn : ops.length ≤ 1000000)
    (hq : ∀ k, w.heap.size ≤ k → Q k) (hqb : ∀ k, Q k → k ≠ b) :
    Calls Try.prog 11 #[ptr b, v, .slice p ops.length cp] w fun e w' => ∃ q c, e = .returned (.tuple #[.slice q (runL L ops).length c, .bool true]) ∧ Hid (Tl Q w' (.slice q (runL L ops).length c) (runL L ops) ∧ Dq w' b (runL L ops) ∧ Keep (But b) w w') := by
  have hL := M.len hD
  have HLn := hid fun i => runL_len (ops.take i) L hL
  have hb := M.lt hD
  obtain ⟨p0, c0, rfl, -⟩ := h.shape
  have HD := hid hD
  have HT := hid h
  have HO := hid hO
  have HF := hid hF
  have HM := hid M
  have HQ := hid hq
  have HQB := hid hqb
  clear hD h hO hF M hq hqb
  go_enter Try.func11, Try.ntmps11
  go_wp2_with fail
  go_loopw [1, 9, 10, 11, 12, 15] (fun v1 _ _ _ _ v15 W => ∃ (i : Nat) (q : Option Addr) (c : Nat), v15 = .int .i64 i ∧ v1 = .slice q (runL L (ops.take i)).length c ∧ i ≤ ops.length ∧ Hid (Tl Q W (.slice q (runL L (ops.take i)).length c) (runL L (ops.take i))) ∧ Hid (Dq W b (runL L (ops.take i))) ∧ Hid (Keep (But b) w W)) (fun _ _ _ _ _ v15 _ => ops.length - (intOf v15).toNat)
  case atStart => exact ⟨0, p0, c0, rfl, rfl, Nat.zero_le _, HT.out, HD.out, Keep.refl _ _⟩
  case round =>
    obtain ⟨i, q, c, rfl, rfl, hi, HTi, HDi, HK⟩ := hrel
    by_cases hlt : i < ops.length
    · have hlz : (i : Int) < (ops.length : Int) := by omega
      obtain ⟨g, o, rfl, hg, hcs⟩ := (HO.out.keep HK.out (fun _ h => h)) (fun e => by rw [e] at hlt; simp at hlt)
      obtain ⟨x0, x1, x2, x3, x4⟩ := hcs i hlt
      have HFi := hid (HF.out ops[i] (List.getElem_mem hlt))
      have HNx := hid (runL_take (L := L) hlt)
      have HL1 := hid (HLn.out i)
      have HL2 := hid (HLn.out (i + 1))
      generalize ops[i] = op at *
      generalize runL L (ops.take i) = R at *
      clear hcs
      go_wp2_with fail
      have HB1 := hid (below_alloc wr (.cells #[.int .i64 op.kind, .int .i64 op.a, .int .i64 op.b, .bool op.front, txt op.s] 40))
      refine (do_any Q _ R op HFi.out _ (HTi.out.below HB1.out) (fun k hk => HQ.out k (by have := HK.out.size; simp at hk; omega)) HL1.out).mono ?_
      rintro e w2 ⟨p2, c2, q2, d2, rfl, hh⟩
      have hs2 := hh.out.2.2.size
      rw [show (wr.alloc (.cells #[.int .i64 op.kind, .int .i64 op.a, .int .i64 op.b, .bool op.front, txt op.s] 40)).heap.size = wr.heap.size + 1 by simp] at hs2
      have hop2 := (hh.out.2.2.block wr.heap.size (by simp)).trans (heap_alloc_new wr _)
      have HDo := hid fun (W : World) (hD : Dq W b R) => does_any HM.out b R op HFi.out W hD
      have HLA := hid (doA_len R op HL1.out)
      generalize hs : (doA R op).s = asx at *
      generalize his : (doA R op).is = ai at *
      generalize hli : (doA R op).list = al at *
      rw [← HNx.out] at *
      generalize hR' : runL L (ops.take (i + 1)) = R' at *
      have HR' := hid hR'
      clear hs his hli hR'
      have HOp3 : Hid ((w2.alloc (.cells #[txt asx, .bool ai, .slice q2 al.length d2] 42)).heap[wr.heap.size]? = some (.cells #[.int .i64 op.kind, .int .i64 op.a, .int .i64 op.b, .bool op.front, txt op.s] 40 (0, 0))) := (heap_alloc_old w2 _ (by omega)).trans hop2
      have HH := hid hh.out
      have HB2 := hid (HB1.out.trans (hh.out.2.2.mono HB1.out.size))
      clear hh hop2 x0 x1 x2 x3 x4
      go_wp2_with (refine wpList_load_row rfl 40 _ rfl wr.heap.size rfl 40 _ (0, 0) _ HOp3.out Try.underlying40 rfl (infoO _ _ _ _ _) (Hid.out ?_))
      refine hid ?_
      go_wp2_with fail
      have HB3 := hid (HB2.out.trans ((below_alloc w2 (.cells #[txt asx, .bool ai, .slice q2 al.length d2] 42)).mono HB2.out.size))
      refine (HDo.out _ (HM.out.below HDi.out HB3.out)).mono ?_
      rintro e w4 ⟨q4, d4, rfl, hh⟩
      have hs4 := hh.out.2.2.size
      rw [show (w2.alloc (.cells #[txt asx, .bool ai, .slice q2 al.length d2] 42)).heap.size = w2.heap.size + 1 by simp] at hs4
      have hwb : w.heap.size ≤ wr.heap.size := HK.out.size
      have hw2 := (hh.out.2.2.block w2.heap.size (by simp) (show w2.heap.size ≠ b by omega)).trans (heap_alloc_new w2 _)
      obtain ⟨⟨z0, z1, z2⟩, -⟩ := ans_facts ((heap_alloc_old w4 (.cells #[txt asx, .bool ai, .slice q4 al.length d4] 42) (by omega)).trans hw2)
      have HG := hid hh.out
      have HK4 := hid ((HK.out.trans (Keep.of_below HB3.out)).trans hh.out.2.2)
      have HT4 := hid (((HH.out.1.below (below_alloc w2 (.cells #[txt asx, .bool ai, .slice q2 al.length d2] 42))).keep (Q := Q) (hh.out.2.2.mono HQB.out) (fun _ h => h)))
      have HTa := hid ((HH.out.2.1.below (below_alloc w2 (.cells #[txt asx, .bool ai, .slice q2 al.length d2] 42))).keep (Q := Q) (hh.out.2.2.mono HQB.out) (fun _ h => h))
      clear hh hw2
      go_wp2_with fail
      have HB5 := hid (below_alloc w4 (.cells #[txt asx, .bool ai, .slice q4 al.length d4] 42))
      refine (same_any _ _ _ _ al al _ (HG.out.2.1.below HB5.out) (HTa.out.below HB5.out) (by have := HLA.out; omega)).mono ?_
      rintro e w6 ⟨rfl, hb6⟩
      have HB6 := hid (HB5.out.trans (hb6.out.mono HB5.out.size))
      have hdt : decide (al = al) = true := by simp
      rw [hdt]
      clear hb6 hdt z0 z1 z2
      go_wp2_with fail
      refine (HM.out.length b R' _ (HM.out.below HG.out.1 HB6.out)).mono ?_
      rintro e w7 ⟨rfl, hh⟩
      have HE := hid hh.out
      have HK7 := hid ((HK4.out.trans (Keep.of_below HB6.out)).trans hh.out.2)
      have HT7 := hid ((HT4.out.below HB6.out).keep (Q := Q) (hh.out.2.mono HQB.out) (fun _ h => h))
      clear hh
      go_wp2_with fail
      refine ⟨⟨i + 1, p2, c2, by go_num, ?_, by omega, ?_, ?_, HK7.out⟩, by simp [intOf]; omega⟩
      · rw [HR'.out]
      · rw [HR'.out]; exact HT7.out
      · rw [HR'.out]; exact HE.out.1
    · have et : ops.take i = ops := List.take_of_length_le (by omega)
      rw [et] at HTi HDi
      rw [et]
      go_wp2
      go_ret2
      exact ⟨q, c, rfl, HTi.out, HDi.out, HK.out⟩

end Go.Proofs.Ytmlnjcmkengkhaa
