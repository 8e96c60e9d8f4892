/- A call on a deque: the law's does (written by does.py). -/
import Derived.Test.YtmlnjcmkengkhaaMeth
namespace Go.Proofs.Ytmlnjcmkengkhaa
open Go.RowKit

theorem keep_other {b : Nat} {w w' : World} (h : Keep (But b) w w') (g i : Nat) (u : Value) (hg : w.heap.size ≤ g) : Keep (But b) w (w'.setCell ⟨g, i, none⟩ u) :=
  ⟨h.os, h.tape, h.output, by simpa using h.size, fun k hk hkb => (heap_setCell_other w' ⟨g, i, none⟩ k u (by simp; omega)).trans (h.block k hk hkb)⟩
theorem keep_row' {b : Nat} {w w' : World} (h : Keep (But b) w w') (g : Nat) (cs : Array Value) (hg : w.heap.size ≤ g) : Keep (But b) w (w'.setRow g cs) :=
  ⟨h.os, h.tape, h.output, by simpa using h.size, fun k hk hkb => (setRow_other w' g k cs (by omega)).trans (h.block k hk hkb)⟩
theorem keep_two {n : Nat} (w : World) (g h i : Nat) (u : Value) (cs : Array Value) (hg : g < n) (hh : h < n) : Keep (fun k => n ≤ k) w ((w.setCell ⟨g, i, none⟩ u).setRow h cs) :=
  ⟨rfl, rfl, rfl, by simp, fun k _ hk => (setRow_other _ h k cs (by omega)).trans (heap_setCell_other w ⟨g, i, none⟩ k u (by simp; omega))⟩
set_option maxHeartbeats 2000000 in
set_option maxRecDepth 100000 in
theorem does_push {Dq : World → Nat → Row → Prop} (M : Meth Dq) (b : Nat) (L : Row) (o : OpL) (_hF : OpFit o) (hk : o.kind = 0) (w : World) (hD : Dq w b L) :
    Calls Try.prog 18 #[ptr b, opV o] w fun e w' => ∃ q d, e = .returned (ansV (doA L o).s (doA L o).is (.slice q (doA L o).list.length d)) ∧ Hid (Dq w' b (doR L o) ∧ Tl (New w) w' (.slice q (doA L o).list.length d) (doA L o).list ∧ Keep (But b) w w') := by
  rw [show doR L o = pushL L o.front o.s by simp [doR, hk], show doA L o = ⟨[], pushB L, []⟩ by simp [doA, hk]]
  have hD3 := M.below hD (boxed3_below w o)
  have hb := M.lt hD
  have HA := hid (boxed3_ans w o)
  have HR := hid (boxed3_res w o)
  have HS := hid (boxed3_size w o)
  have HBX := hid (boxed3_below w o)
  have HM := hid M
  have HP := hid (M.push b L o.front o.s (boxed3 w o) hD3)
  obtain ⟨kind, a, c, front, s⟩ := o
  simp only at hk HP HA HR HS HBX ⊢
  subst hk
  generalize pushL L front s = L' at *
  generalize pushB L = PB at *
  clear hD hD3 M
  go_enter Try.func18, Try.ntmps18
  go_wp2_with fail
  refine HP.out.mono ?_; rintro e w3 ⟨rfl, hh⟩
  have HA3 := hid ((hh.out.2.block (w.heap.size + 2) (by have := HS.out; omega) (show w.heap.size + 2 ≠ b by omega)).trans HA.out)
  have HR3 := hid ((hh.out.2.block (w.heap.size + 1) (by have := HS.out; omega) (show w.heap.size + 1 ≠ b by omega)).trans HR.out)
  have HK3 := hid (((Keep.of_below (P := But b) HBX.out)).trans hh.out.2)
  have HH := hid hh.out
  obtain ⟨⟨c0, c1, c2⟩, f0, f1, f2⟩ := ans_facts HA3.out
  have hlt3 : w.heap.size + 3 ≤ w3.heap.size := by have := HS.out; have := hh.out.2.size; omega
  clear hh
  have HA4 : Hid (((w3.setCell ⟨w.heap.size + 2, 1, none⟩ (.bool PB))).heap[w.heap.size + 2]? = some (.cells #[txt [], .bool PB, .slice none 0 0] 42 (0, 0))) := (heap_setCell_same _ (w.heap.size + 2) 1 _ _ (.bool PB) HA3.out)
  have HR4 : Hid (((w3.setCell ⟨w.heap.size + 2, 1, none⟩ (.bool PB))).heap[w.heap.size + 1]? = some (.cells #[.string ⟨#[]⟩, .bool false, .slice none 0 0] 42 (0, 0))) := by
    unfold Hid
    rw [heap_setCell_other _ _ _ _ (by simp)]
    exact HR3.out
  go_wp2_with (first | (refine wpList_load_row rfl 42 _ rfl (w.heap.size + 2) rfl 42 _ (0, 0) _ HA4.out Try.underlying42 rfl (infoA _ _ _) ?_) | (refine wpList_store_row rfl 42 _ _ rfl (w.heap.size + 1) #[txt [], .bool PB, .slice none 0 0] rfl rfl 42 _ HR4.out (infoA _ _ _) rfl (oneA _ _ _ _ _) ?_))
  refine bodyPost_ret (v := ansV [] PB (.slice none 0 0)) ?_ rfl ?_
  · exact ret_ans rfl rfl (setRow_heap _ _ _ _ _ _ HR4.out)
  · refine ⟨_, _, rfl, ?_, Tl.nil _ _, ?_⟩
    · exact HM.out.turn HH.out.1 (by rw [setRow_other _ _ _ _ (by omega)]; rw [heap_setCell_other _ _ _ _ (by simp; omega)])
    · exact keep_row' (keep_other HK3.out (w.heap.size + 2) 1 (.bool PB) (by omega)) _ _ (by omega)
set_option maxHeartbeats 2000000 in
set_option maxRecDepth 100000 in
theorem does_pop {Dq : World → Nat → Row → Prop} (M : Meth Dq) (b : Nat) (L : Row) (o : OpL) (_hF : OpFit o) (hk : o.kind = 1) (w : World) (hD : Dq w b L) :
    Calls Try.prog 18 #[ptr b, opV o] w fun e w' => ∃ q d, e = .returned (ansV (doA L o).s (doA L o).is (.slice q (doA L o).list.length d)) ∧ Hid (Dq w' b (doR L o) ∧ Tl (New w) w' (.slice q (doA L o).list.length d) (doA L o).list ∧ Keep (But b) w w') := by
  rw [show doR L o = popL L o.front by simp [doR, hk], show doA L o = ⟨popS L o.front, popB L, []⟩ by simp [doA, hk]]
  have hD3 := M.below hD (boxed3_below w o)
  have hb := M.lt hD
  have HA := hid (boxed3_ans w o)
  have HR := hid (boxed3_res w o)
  have HS := hid (boxed3_size w o)
  have HBX := hid (boxed3_below w o)
  have HM := hid M
  have HP := hid (M.pop b L o.front (boxed3 w o) hD3)
  obtain ⟨kind, a, c, front, s⟩ := o
  simp only at hk HP HA HR HS HBX ⊢
  subst hk
  generalize popL L front = L' at *
  generalize popS L front = PS at *
  generalize popB L = PB at *
  clear hD hD3 M
  go_enter Try.func18, Try.ntmps18
  go_wp2_with fail
  refine HP.out.mono ?_; rintro e w3 ⟨rfl, hh⟩
  have HA3 := hid ((hh.out.2.block (w.heap.size + 2) (by have := HS.out; omega) (show w.heap.size + 2 ≠ b by omega)).trans HA.out)
  have HR3 := hid ((hh.out.2.block (w.heap.size + 1) (by have := HS.out; omega) (show w.heap.size + 1 ≠ b by omega)).trans HR.out)
  have HK3 := hid (((Keep.of_below (P := But b) HBX.out)).trans hh.out.2)
  have HH := hid hh.out
  obtain ⟨⟨c0, c1, c2⟩, f0, f1, f2⟩ := ans_facts HA3.out
  have hlt3 : w.heap.size + 3 ≤ w3.heap.size := by have := HS.out; have := hh.out.2.size; omega
  clear hh
  have HA4 : Hid ((((w3.setCell ⟨w.heap.size + 2, 0, none⟩ (txt PS)).setCell ⟨w.heap.size + 2, 1, none⟩ (.bool PB))).heap[w.heap.size + 2]? = some (.cells #[txt PS, .bool PB, .slice none 0 0] 42 (0, 0))) := (heap_setCell_same _ (w.heap.size + 2) 1 _ _ (.bool PB) (heap_setCell_same _ (w.heap.size + 2) 0 _ _ (txt PS) HA3.out))
  have HR4 : Hid ((((w3.setCell ⟨w.heap.size + 2, 0, none⟩ (txt PS)).setCell ⟨w.heap.size + 2, 1, none⟩ (.bool PB))).heap[w.heap.size + 1]? = some (.cells #[.string ⟨#[]⟩, .bool false, .slice none 0 0] 42 (0, 0))) := by
    unfold Hid
    rw [heap_setCell_other _ _ _ _ (by simp)]
    rw [heap_setCell_other _ _ _ _ (by simp)]
    exact HR3.out
  go_wp2_with (first | (refine wpList_load_row rfl 42 _ rfl (w.heap.size + 2) rfl 42 _ (0, 0) _ HA4.out Try.underlying42 rfl (infoA _ _ _) ?_) | (refine wpList_store_row rfl 42 _ _ rfl (w.heap.size + 1) #[txt PS, .bool PB, .slice none 0 0] rfl rfl 42 _ HR4.out (infoA _ _ _) rfl (oneA _ _ _ _ _) ?_))
  refine bodyPost_ret (v := ansV PS PB (.slice none 0 0)) ?_ rfl ?_
  · exact ret_ans rfl rfl (setRow_heap _ _ _ _ _ _ HR4.out)
  · refine ⟨_, _, rfl, ?_, Tl.nil _ _, ?_⟩
    · exact HM.out.turn HH.out.1 (by rw [setRow_other _ _ _ _ (by omega)]; rw [heap_setCell_other _ _ _ _ (by simp; omega)]; rw [heap_setCell_other _ _ _ _ (by simp; omega)])
    · exact keep_row' (keep_other (keep_other HK3.out (w.heap.size + 2) 0 (txt PS) (by omega)) (w.heap.size + 2) 1 (.bool PB) (by omega)) _ _ (by omega)
set_option maxHeartbeats 2000000 in
set_option maxRecDepth 100000 in
theorem does_at {Dq : World → Nat → Row → Prop} (M : Meth Dq) (b : Nat) (L : Row) (o : OpL) (hF : OpFit o) (hk : o.kind = 2) (w : World) (hD : Dq w b L) :
    Calls Try.prog 18 #[ptr b, opV o] w fun e w' => ∃ q d, e = .returned (ansV (doA L o).s (doA L o).is (.slice q (doA L o).list.length d)) ∧ Hid (Dq w' b (doR L o) ∧ Tl (New w) w' (.slice q (doA L o).list.length d) (doA L o).list ∧ Keep (But b) w w') := by
  rw [show doR L o = L by simp [doR, hk], show doA L o = ⟨atS L o.a, atB L o.a, []⟩ by simp [doA, hk]]
  have hD3 := M.below hD (boxed3_below w o)
  have hb := M.lt hD
  have HA := hid (boxed3_ans w o)
  have HR := hid (boxed3_res w o)
  have HS := hid (boxed3_size w o)
  have HBX := hid (boxed3_below w o)
  have HM := hid M
  have HP := hid (M.spot b L o.a (boxed3 w o) hD3 hF.a0 hF.a1)
  obtain ⟨kind, a, c, front, s⟩ := o
  simp only at hk HP HA HR HS HBX ⊢
  subst hk
  generalize atS L a = PS at *
  generalize atB L a = PB at *
  clear hD hD3 M
  go_enter Try.func18, Try.ntmps18
  go_wp2_with fail
  refine HP.out.mono ?_; rintro e w3 ⟨rfl, hh⟩
  have HA3 := hid ((hh.out.2.block (w.heap.size + 2) (by have := HS.out; omega) (show w.heap.size + 2 ≠ b by omega)).trans HA.out)
  have HR3 := hid ((hh.out.2.block (w.heap.size + 1) (by have := HS.out; omega) (show w.heap.size + 1 ≠ b by omega)).trans HR.out)
  have HK3 := hid (((Keep.of_below (P := But b) HBX.out)).trans hh.out.2)
  have HH := hid hh.out
  obtain ⟨⟨c0, c1, c2⟩, f0, f1, f2⟩ := ans_facts HA3.out
  have hlt3 : w.heap.size + 3 ≤ w3.heap.size := by have := HS.out; have := hh.out.2.size; omega
  clear hh
  have HA4 : Hid ((((w3.setCell ⟨w.heap.size + 2, 0, none⟩ (txt PS)).setCell ⟨w.heap.size + 2, 1, none⟩ (.bool PB))).heap[w.heap.size + 2]? = some (.cells #[txt PS, .bool PB, .slice none 0 0] 42 (0, 0))) := (heap_setCell_same _ (w.heap.size + 2) 1 _ _ (.bool PB) (heap_setCell_same _ (w.heap.size + 2) 0 _ _ (txt PS) HA3.out))
  have HR4 : Hid ((((w3.setCell ⟨w.heap.size + 2, 0, none⟩ (txt PS)).setCell ⟨w.heap.size + 2, 1, none⟩ (.bool PB))).heap[w.heap.size + 1]? = some (.cells #[.string ⟨#[]⟩, .bool false, .slice none 0 0] 42 (0, 0))) := by
    unfold Hid
    rw [heap_setCell_other _ _ _ _ (by simp)]
    rw [heap_setCell_other _ _ _ _ (by simp)]
    exact HR3.out
  go_wp2_with (first | (refine wpList_load_row rfl 42 _ rfl (w.heap.size + 2) rfl 42 _ (0, 0) _ HA4.out Try.underlying42 rfl (infoA _ _ _) ?_) | (refine wpList_store_row rfl 42 _ _ rfl (w.heap.size + 1) #[txt PS, .bool PB, .slice none 0 0] rfl rfl 42 _ HR4.out (infoA _ _ _) rfl (oneA _ _ _ _ _) ?_))
  refine bodyPost_ret (v := ansV PS PB (.slice none 0 0)) ?_ rfl ?_
  · exact ret_ans rfl rfl (setRow_heap _ _ _ _ _ _ HR4.out)
  · refine ⟨_, _, rfl, ?_, Tl.nil _ _, ?_⟩
    · exact HM.out.turn HH.out.1 (by rw [setRow_other _ _ _ _ (by omega)]; rw [heap_setCell_other _ _ _ _ (by simp; omega)]; rw [heap_setCell_other _ _ _ _ (by simp; omega)])
    · exact keep_row' (keep_other (keep_other HK3.out (w.heap.size + 2) 0 (txt PS) (by omega)) (w.heap.size + 2) 1 (.bool PB) (by omega)) _ _ (by omega)
set_option maxHeartbeats 2000000 in
set_option maxRecDepth 100000 in
theorem does_put {Dq : World → Nat → Row → Prop} (M : Meth Dq) (b : Nat) (L : Row) (o : OpL) (hF : OpFit o) (hk : o.kind = 3) (w : World) (hD : Dq w b L) :
    Calls Try.prog 18 #[ptr b, opV o] w fun e w' => ∃ q d, e = .returned (ansV (doA L o).s (doA L o).is (.slice q (doA L o).list.length d)) ∧ Hid (Dq w' b (doR L o) ∧ Tl (New w) w' (.slice q (doA L o).list.length d) (doA L o).list ∧ Keep (But b) w w') := by
  rw [show doR L o = putL L o.a o.s by simp [doR, hk], show doA L o = ⟨[], atB L o.a, []⟩ by simp [doA, hk]]
  have hD3 := M.below hD (boxed3_below w o)
  have hb := M.lt hD
  have HA := hid (boxed3_ans w o)
  have HR := hid (boxed3_res w o)
  have HS := hid (boxed3_size w o)
  have HBX := hid (boxed3_below w o)
  have HM := hid M
  have HP := hid (M.put b L o.a o.s (boxed3 w o) hD3 hF.a0 hF.a1)
  obtain ⟨kind, a, c, front, s⟩ := o
  simp only at hk HP HA HR HS HBX ⊢
  subst hk
  generalize putL L a s = L' at *
  generalize atB L a = PB at *
  clear hD hD3 M
  go_enter Try.func18, Try.ntmps18
  go_wp2_with fail
  refine HP.out.mono ?_; rintro e w3 ⟨rfl, hh⟩
  have HA3 := hid ((hh.out.2.block (w.heap.size + 2) (by have := HS.out; omega) (show w.heap.size + 2 ≠ b by omega)).trans HA.out)
  have HR3 := hid ((hh.out.2.block (w.heap.size + 1) (by have := HS.out; omega) (show w.heap.size + 1 ≠ b by omega)).trans HR.out)
  have HK3 := hid (((Keep.of_below (P := But b) HBX.out)).trans hh.out.2)
  have HH := hid hh.out
  obtain ⟨⟨c0, c1, c2⟩, f0, f1, f2⟩ := ans_facts HA3.out
  have hlt3 : w.heap.size + 3 ≤ w3.heap.size := by have := HS.out; have := hh.out.2.size; omega
  clear hh
  have HA4 : Hid (((w3.setCell ⟨w.heap.size + 2, 1, none⟩ (.bool PB))).heap[w.heap.size + 2]? = some (.cells #[txt [], .bool PB, .slice none 0 0] 42 (0, 0))) := (heap_setCell_same _ (w.heap.size + 2) 1 _ _ (.bool PB) HA3.out)
  have HR4 : Hid (((w3.setCell ⟨w.heap.size + 2, 1, none⟩ (.bool PB))).heap[w.heap.size + 1]? = some (.cells #[.string ⟨#[]⟩, .bool false, .slice none 0 0] 42 (0, 0))) := by
    unfold Hid
    rw [heap_setCell_other _ _ _ _ (by simp)]
    exact HR3.out
  go_wp2_with (first | (refine wpList_load_row rfl 42 _ rfl (w.heap.size + 2) rfl 42 _ (0, 0) _ HA4.out Try.underlying42 rfl (infoA _ _ _) ?_) | (refine wpList_store_row rfl 42 _ _ rfl (w.heap.size + 1) #[txt [], .bool PB, .slice none 0 0] rfl rfl 42 _ HR4.out (infoA _ _ _) rfl (oneA _ _ _ _ _) ?_))
  refine bodyPost_ret (v := ansV [] PB (.slice none 0 0)) ?_ rfl ?_
  · exact ret_ans rfl rfl (setRow_heap _ _ _ _ _ _ HR4.out)
  · refine ⟨_, _, rfl, ?_, Tl.nil _ _, ?_⟩
    · exact HM.out.turn HH.out.1 (by rw [setRow_other _ _ _ _ (by omega)]; rw [heap_setCell_other _ _ _ _ (by simp; omega)])
    · exact keep_row' (keep_other HK3.out (w.heap.size + 2) 1 (.bool PB) (by omega)) _ _ (by omega)
set_option maxHeartbeats 2000000 in
set_option maxRecDepth 100000 in
theorem does_range {Dq : World → Nat → Row → Prop} (M : Meth Dq) (b : Nat) (L : Row) (o : OpL) (hF : OpFit o) (hk : o.kind = 4) (w : World) (hD : Dq w b L) :
    Calls Try.prog 18 #[ptr b, opV o] w fun e w' => ∃ q d, e = .returned (ansV (doA L o).s (doA L o).is (.slice q (doA L o).list.length d)) ∧ Hid (Dq w' b (doR L o) ∧ Tl (New w) w' (.slice q (doA L o).list.length d) (doA L o).list ∧ Keep (But b) w w') := by
  rw [show doR L o = L by simp [doR, hk], show doA L o = ⟨[], false, rangeL L o.a o.b⟩ by simp [doA, hk]]
  have hD3 := M.below hD (boxed3_below w o)
  have hb := M.lt hD
  have HA := hid (boxed3_ans w o)
  have HR := hid (boxed3_res w o)
  have HS := hid (boxed3_size w o)
  have HBX := hid (boxed3_below w o)
  have HM := hid M
  have HP := hid (M.range b L o.a o.b (boxed3 w o) hD3 hF.a0 hF.a1 hF.b0 hF.b1)
  obtain ⟨kind, a, c, front, s⟩ := o
  simp only at hk HP HA HR HS HBX ⊢
  subst hk
  generalize rangeL L a c = R at *
  clear hD hD3 M
  go_enter Try.func18, Try.ntmps18
  go_wp2_with fail
  refine HP.out.mono ?_; rintro e w3 ⟨p, d, rfl, hh⟩
  have HA3 := hid ((hh.out.2.2.block (w.heap.size + 2) (by have := HS.out; omega) (show w.heap.size + 2 ≠ b by omega)).trans HA.out)
  have HR3 := hid ((hh.out.2.2.block (w.heap.size + 1) (by have := HS.out; omega) (show w.heap.size + 1 ≠ b by omega)).trans HR.out)
  have HK3 := hid (((Keep.of_below (P := But b) HBX.out)).trans hh.out.2.2)
  have HH := hid hh.out
  obtain ⟨⟨c0, c1, c2⟩, f0, f1, f2⟩ := ans_facts HA3.out
  have hlt3 : w.heap.size + 3 ≤ w3.heap.size := by have := HS.out; have := hh.out.2.2.size; omega
  clear hh
  have HA4 : Hid (((w3.setCell ⟨w.heap.size + 2, 2, none⟩ (.slice p R.length d))).heap[w.heap.size + 2]? = some (.cells #[txt [], .bool false, .slice p R.length d] 42 (0, 0))) := (heap_setCell_same _ (w.heap.size + 2) 2 _ _ (.slice p R.length d) HA3.out)
  have HR4 : Hid (((w3.setCell ⟨w.heap.size + 2, 2, none⟩ (.slice p R.length d))).heap[w.heap.size + 1]? = some (.cells #[.string ⟨#[]⟩, .bool false, .slice none 0 0] 42 (0, 0))) := by
    unfold Hid
    rw [heap_setCell_other _ _ _ _ (by simp)]
    exact HR3.out
  go_wp2_with (first | (refine wpList_load_row rfl 42 _ rfl (w.heap.size + 2) rfl 42 _ (0, 0) _ HA4.out Try.underlying42 rfl (infoA _ _ _) ?_) | (refine wpList_store_row rfl 42 _ _ rfl (w.heap.size + 1) #[txt [], .bool false, .slice p R.length d] rfl rfl 42 _ HR4.out (infoA _ _ _) rfl (oneA _ _ _ _ _) ?_))
  refine bodyPost_ret (v := ansV [] false (.slice p R.length d)) ?_ rfl ?_
  · exact ret_ans rfl rfl (setRow_heap _ _ _ _ _ _ HR4.out)
  · refine ⟨_, _, rfl, ?_, HH.out.1.keep (P := fun k => (boxed3 w _).heap.size ≤ k) (keep_two w3 _ _ _ _ _ (by have := HS.out; omega) (by have := HS.out; omega)) (fun k hk => by have := HS.out; show w.heap.size ≤ k; omega), ?_⟩
    · exact HM.out.turn HH.out.2.1 (by rw [setRow_other _ _ _ _ (by omega)]; rw [heap_setCell_other _ _ _ _ (by simp; omega)])
    · exact keep_row' (keep_other HK3.out (w.heap.size + 2) 2 (.slice p R.length d) (by omega)) _ _ (by omega)
set_option maxHeartbeats 2000000 in
set_option maxRecDepth 100000 in
theorem does_trim {Dq : World → Nat → Row → Prop} (M : Meth Dq) (b : Nat) (L : Row) (o : OpL) (hF : OpFit o) (hk : o.kind = 5) (w : World) (hD : Dq w b L) :
    Calls Try.prog 18 #[ptr b, opV o] w fun e w' => ∃ q d, e = .returned (ansV (doA L o).s (doA L o).is (.slice q (doA L o).list.length d)) ∧ Hid (Dq w' b (doR L o) ∧ Tl (New w) w' (.slice q (doA L o).list.length d) (doA L o).list ∧ Keep (But b) w w') := by
  rw [show doR L o = rangeL L o.a o.b by simp [doR, hk], show doA L o = ⟨[], false, []⟩ by simp [doA, hk]]
  have hD3 := M.below hD (boxed3_below w o)
  have hb := M.lt hD
  have HA := hid (boxed3_ans w o)
  have HR := hid (boxed3_res w o)
  have HS := hid (boxed3_size w o)
  have HBX := hid (boxed3_below w o)
  have HM := hid M
  have HP := hid (M.trim b L o.a o.b (boxed3 w o) hD3 hF.a0 hF.a1 hF.b0 hF.b1)
  obtain ⟨kind, a, c, front, s⟩ := o
  simp only at hk HP HA HR HS HBX ⊢
  subst hk
  generalize rangeL L a c = L' at *
  clear hD hD3 M
  go_enter Try.func18, Try.ntmps18
  go_wp2_with fail
  refine HP.out.mono ?_; rintro e w3 ⟨rfl, hh⟩
  have HA3 := hid ((hh.out.2.block (w.heap.size + 2) (by have := HS.out; omega) (show w.heap.size + 2 ≠ b by omega)).trans HA.out)
  have HR3 := hid ((hh.out.2.block (w.heap.size + 1) (by have := HS.out; omega) (show w.heap.size + 1 ≠ b by omega)).trans HR.out)
  have HK3 := hid (((Keep.of_below (P := But b) HBX.out)).trans hh.out.2)
  have HH := hid hh.out
  obtain ⟨⟨c0, c1, c2⟩, f0, f1, f2⟩ := ans_facts HA3.out
  have hlt3 : w.heap.size + 3 ≤ w3.heap.size := by have := HS.out; have := hh.out.2.size; omega
  clear hh
  have HA4 : Hid ((w3).heap[w.heap.size + 2]? = some (.cells #[txt [], .bool false, .slice none 0 0] 42 (0, 0))) := HA3.out
  have HR4 : Hid ((w3).heap[w.heap.size + 1]? = some (.cells #[.string ⟨#[]⟩, .bool false, .slice none 0 0] 42 (0, 0))) := by
    unfold Hid
    exact HR3.out
  go_wp2_with (first | (refine wpList_load_row rfl 42 _ rfl (w.heap.size + 2) rfl 42 _ (0, 0) _ HA4.out Try.underlying42 rfl (infoA _ _ _) ?_) | (refine wpList_store_row rfl 42 _ _ rfl (w.heap.size + 1) #[txt [], .bool false, .slice none 0 0] rfl rfl 42 _ HR4.out (infoA _ _ _) rfl (oneA _ _ _ _ _) ?_))
  refine bodyPost_ret (v := ansV [] false (.slice none 0 0)) ?_ rfl ?_
  · exact ret_ans rfl rfl (setRow_heap _ _ _ _ _ _ HR4.out)
  · refine ⟨_, _, rfl, ?_, Tl.nil _ _, ?_⟩
    · exact HM.out.turn HH.out.1 (by rw [setRow_other _ _ _ _ (by omega)])
    · exact keep_row' HK3.out _ _ (by omega)
set_option maxHeartbeats 2000000 in
set_option maxRecDepth 100000 in
theorem does_other {Dq : World → Nat → Row → Prop} (M : Meth Dq) (b : Nat) (L : Row) (o : OpL) (_hF : OpFit o) (h0 : o.kind ≠ 0) (h1 : o.kind ≠ 1) (h2 : o.kind ≠ 2) (h3 : o.kind ≠ 3) (h4 : o.kind ≠ 4) (h5 : o.kind ≠ 5) (w : World) (hD : Dq w b L) :
    Calls Try.prog 18 #[ptr b, opV o] w fun e w' => ∃ q d, e = .returned (ansV (doA L o).s (doA L o).is (.slice q (doA L o).list.length d)) ∧ Hid (Dq w' b (doR L o) ∧ Tl (New w) w' (.slice q (doA L o).list.length d) (doA L o).list ∧ Keep (But b) w w') := by
  rw [show doR L o = L by simp [doR, h0, h1, h3, h5], show doA L o = ⟨[], false, []⟩ by simp [doA, h0, h1, h2, h3, h4]]
  have hD3 := M.below hD (boxed3_below w o)
  have hb := M.lt hD
  have HA := hid (boxed3_ans w o)
  have HR := hid (boxed3_res w o)
  have HS := hid (boxed3_size w o)
  have HBX := hid (boxed3_below w o)
  have HM := hid M
  have HD := hid hD3
  have e0 : (o.kind == 0) = false := beq_eq_false_iff_ne.2 h0
  have e1 : (o.kind == 1) = false := beq_eq_false_iff_ne.2 h1
  have e2 : (o.kind == 2) = false := beq_eq_false_iff_ne.2 h2
  have e3 : (o.kind == 3) = false := beq_eq_false_iff_ne.2 h3
  have e4 : (o.kind == 4) = false := beq_eq_false_iff_ne.2 h4
  have e5 : (o.kind == 5) = false := beq_eq_false_iff_ne.2 h5
  obtain ⟨kind, a, c, front, s⟩ := o
  simp only at e0 e1 e2 e3 e4 e5 HA HR HS HBX HD ⊢
  clear hD hD3 M h0 h1 h2 h3 h4 h5
  go_enter Try.func18, Try.ntmps18
  go_wp2_with (first | (refine wpList_load_row rfl 42 _ rfl (w.heap.size + 2) rfl 42 _ (0, 0) _ HA.out Try.underlying42 rfl (infoA _ _ _) ?_) | (refine wpList_store_row rfl 42 _ _ rfl (w.heap.size + 1) #[txt [], .bool false, .slice none 0 0] rfl rfl 42 _ HR.out (infoA _ _ _) rfl (oneA _ _ _ _ _) ?_))
  refine bodyPost_ret (v := ansV [] false (.slice none 0 0)) ?_ rfl ?_
  · exact ret_ans rfl rfl (setRow_heap _ _ _ _ _ _ HR.out)
  · refine ⟨_, _, rfl, ?_, Tl.nil _ _, ?_⟩
    · exact HM.out.turn HD.out (by rw [setRow_other _ _ _ _ (by omega)])
    · exact keep_row' (Keep.of_below HBX.out) _ _ (by omega)
/-- does -/
theorem does_any {Dq : World → Nat → Row → Prop} (M : Meth Dq) (b : Nat) (L : Row) (o : OpL) (hF : OpFit o) (w : World) (hD : Dq w b L) :
    Calls Try.prog 18 #[ptr b, opV o] w fun e w' => ∃ q d, e = .returned (ansV (doA L o).s (doA L o).is (.slice q (doA L o).list.length d)) ∧ Hid (Dq w' b (doR L o) ∧ Tl (New w) w' (.slice q (doA L o).list.length d) (doA L o).list ∧ Keep (But b) w w') := by
  by_cases h0 : o.kind = 0
  · exact does_push M b L o hF h0 w hD
  by_cases h1 : o.kind = 1
  · exact does_pop M b L o hF h1 w hD
  by_cases h2 : o.kind = 2
  · exact does_at M b L o hF h2 w hD
  by_cases h3 : o.kind = 3
  · exact does_put M b L o hF h3 w hD
  by_cases h4 : o.kind = 4
  · exact does_range M b L o hF h4 w hD
  by_cases h5 : o.kind = 5
  · exact does_trim M b L o hF h5 w hD
  exact does_other M b L o hF h0 h1 h2 h3 h4 h5 w hD

end Go.Proofs.Ytmlnjcmkengkhaa
