/- Calls on a dict and on the document's, side by side: the law's does. -/
import Derived.Test.YtphegggekcjenaaDoorDoesPut
namespace Go.Proofs.YtphegggekcjenaaDoor
open Go.RowKit

set_option maxHeartbeats 2000000 in
set_option maxRecDepth 100000 in
theorem does_del {V : World → Prop} {B : Nat} {Dq : World → Nat → (Nat → Prop) → DM Int → Prop} (M : MethI V B Dq) (b : Nat) (O P : Nat → Prop) (D E : DM Int) (v : Value) (o : OpI) (hk : o.kind = 1) (w : World) (hD : Dq w b O D) (h : It (fun j => ¬ O j ∧ P j) w v E.L) (hP : ∀ j, w.heap.size ≤ j → P j) (hs : Small 100000 D) (hsE : Small 100000 E) (hN : o.name.length ≤ 140737488351232) :
    Calls Tryd.prog 13 #[ptr b, rdV v E.rooms E.left, opV o] w fun e w' => ∃ q d, e = .returned (.tuple #[rdV (.slice q (doD E o).L.length d) (doD E o).rooms (doD E o).left, .bool (told D E o)]) ∧ Hid (∃ O', Dq w' b O' (doD D o) ∧ It (fun j => ¬ O' j ∧ P j) w' (.slice q (doD E o).L.length d) (doD E o).L ∧ Grew w O O' ∧ Keep (Off O) w w') := by
  rw [show doD D o = delD D o.name by simp [doD, hk], show doD E o = delD E o.name by simp [doD, hk], show told D E o = (hasL o.name D.L == hasL o.name E.L) by simp [told, hk]]
  obtain ⟨L, r, k⟩ := E
  simp only at h ⊢
  have hb3 := boxed3_below w v r k o
  obtain ⟨p, c, rfl, -⟩ := h.shape
  have HP := hid (rdel_any (fun j => ¬ O j ∧ P j) (.slice p L.length c) L r k o.name (boxed3 w (.slice p L.length c) r k o) (h.below hb3) (by have := hsE.len; simp only at this; omega) (by have := hsE.rooms; simp only at this; omega) (by have := hsE.left; simp only at this; omega))
  have HOp := hid (boxed3_op w (.slice p L.length c) r k o)
  have HRs := hid (boxed3_res w (.slice p L.length c) r k o)
  have HSz := hid (boxed3_size w (.slice p L.length c) r k o)
  have HB3 := hid hb3
  have HD := hid hD
  have HM := hid M
  have HPn := hid hP
  have HDo := hid fun (W : World) (h : Dq W b O D) => M.del b O D o.name W h hs hN
  obtain ⟨kind, y, n⟩ := o
  simp only at hk HP HOp HRs HSz HB3 HDo ⊢
  subst hk
  generalize delD ⟨L, r, k⟩ n = D' at *
  obtain ⟨L', r', k'⟩ := D'
  simp only at HP ⊢
  generalize hasL n L = was at *
  generalize hasL n D.L = was2 at *
  generalize delD D n = DD at *
  clear h hD hb3 M hs hP hsE
  go_enter Tryd.func13, Tryd.ntmps13
  go_wp2_with fail
  refine HP.out.mono ?_; rintro e w4 ⟨q, d, rfl, hh⟩
  have H4 := hid hh.out
  have hs4 : w.heap.size + 3 ≤ w4.heap.size := by have := hh.out.2.size; have := HSz.out; omega
  have hop4 := (hh.out.2.block (w.heap.size + 1) (by have := HSz.out; omega)).trans HOp.out
  have hrs4 := (hh.out.2.block (w.heap.size + 2) (by have := HSz.out; omega)).trans HRs.out
  have HB5 := hid ((HB3.out.trans (hh.out.2.mono HB3.out.size)).trans ((below_alloc w4 (.cells #[.slice q L'.length d, .int .i64 r', .int .i64 k'] 26)).mono (by omega)))
  obtain ⟨a0, a1, a2⟩ := op_facts ((heap_alloc_old w4 (.cells #[.slice q L'.length d, .int .i64 r', .int .i64 k'] 26) (by omega)).trans hop4)
  have HD5 := hid (HM.out.below HD.out HB5.out)
  have HO6 := hid ((heap_alloc_old w4 (.cells #[.slice q L'.length d, .int .i64 r', .int .i64 k'] 26) (by omega)).trans hop4)
  have HR6 := hid ((heap_alloc_old w4 (.cells #[.slice q L'.length d, .int .i64 r', .int .i64 k'] 26) (by omega)).trans hrs4)
  have HS6 := hid (heap_alloc_new w4 (.cells #[.slice q L'.length d, .int .i64 r', .int .i64 k'] 26))
  have HD6 : Hid (Dq (w4.alloc (.cells #[.slice q L'.length d, .int .i64 r', .int .i64 k'] 26)).drew b O D) := HM.out.turn HD5.out (fun _ _ => rfl) (Nat.le_refl _)
  have HLt := hid (HM.out.lt HD.out)
  have HBs := hid (HM.out.base HD.out)
  clear hh hop4 hrs4
  have HX : Hid (∀ w6 : World, (∃ O', Dq w6 b O' DD ∧ Grew (w4.alloc (.cells #[.slice q L'.length d, .int .i64 r', .int .i64 k'] 26)).drew O O' ∧ Keep (Off O) (w4.alloc (.cells #[.slice q L'.length d, .int .i64 r', .int .i64 k'] 26)).drew w6) → ∃ O', w4.heap.size + 1 ≤ w6.heap.size ∧
      (w6.cell? ⟨w4.heap.size, 0, none⟩ = some (.slice q L'.length d) ∧ w6.cell? ⟨w4.heap.size, 1, none⟩ = some (.int .i64 r') ∧ w6.cell? ⟨w4.heap.size, 2, none⟩ = some (.int .i64 k')) ∧ (w6.frozen? ⟨w4.heap.size, 0, none⟩ = false ∧ w6.frozen? ⟨w4.heap.size, 1, none⟩ = false ∧ w6.frozen? ⟨w4.heap.size, 2, none⟩ = false) ∧
      (w6.cell? ⟨w.heap.size + 1 + 1, 0, none⟩ = some (.slice none 0 0) ∧ w6.cell? ⟨w.heap.size + 1 + 1, 1, none⟩ = some (.int .i64 0) ∧ w6.cell? ⟨w.heap.size + 1 + 1, 2, none⟩ = some (.int .i64 0)) ∧ (w6.frozen? ⟨w.heap.size + 1 + 1, 0, none⟩ = false ∧ w6.frozen? ⟨w.heap.size + 1 + 1, 1, none⟩ = false ∧ w6.frozen? ⟨w.heap.size + 1 + 1, 2, none⟩ = false) ∧
      Hid (w6.heap[w.heap.size + 1 + 1]? = some (.cells #[.slice none 0 0, .int .i64 0, .int .i64 0] 26 (0, 0))) ∧ Hid (Dq w6 b O' DD ∧ Grew (w4.alloc (.cells #[.slice q L'.length d, .int .i64 r', .int .i64 k'] 26)).drew O O' ∧ Keep (Off O) (w4.alloc (.cells #[.slice q L'.length d, .int .i64 r', .int .i64 k'] 26)).drew w6)) := fun w6 ⟨O', h1, h2, h3⟩ => by
    have hsz := h3.size
    simp only [World.drew] at hsz
    have e1 : (w4.alloc (.cells #[.slice q L'.length d, .int .i64 r', .int .i64 k'] 26)).heap.size = w4.heap.size + 1 := by simp
    have b1 := (h3.block w4.heap.size (show w4.heap.size < (w4.alloc _).heap.size by rw [e1]; omega) (fun h => by have := HLt.out _ h; omega)).trans HS6.out
    have b2 := (h3.block (w.heap.size + 1 + 1) (show w.heap.size + 1 + 1 < (w4.alloc _).heap.size by rw [e1]; omega) (fun h => by have := HLt.out _ h; omega)).trans HR6.out
    obtain ⟨c1, f1⟩ := rd_facts b1
    obtain ⟨c2, f2⟩ := rd_facts b2
    exact ⟨O', by omega, c1, f1, c2, f2, b2, h1, h2, h3⟩
  go_wp2_with fail
  go_region_law (go_simp; go_at_call 23; refine (HDo.out _ HD6.out).mono ?_; rintro e w6 ⟨rfl, hh⟩; obtain ⟨O', hz6, ⟨u0, u1, u2⟩, ⟨t0, t1, t2⟩, ⟨m0, m1, m2⟩, ⟨s0, s1, s2⟩, HRw, HQ⟩ := HX.out w6 hh.out; clear hh)
  all_goals go_wp2_with fail
  all_goals refine bodyPost_ret (v := .tuple #[rdV (.slice q L'.length d) r' k', .bool (was2 == was)]) ?_ rfl ?_
  all_goals first
    | exact ret_rd2 rfl rfl rfl (heap_setCell_same _ (w.heap.size + 1 + 1) 2 _ _ _ (heap_setCell_same _ (w.heap.size + 1 + 1) 1 _ _ _ (heap_setCell_same _ (w.heap.size + 1 + 1) 0 _ _ _ HRw.out)))
    | exact ⟨q, d, rfl, does_finish (W5 := (w4.alloc (.cells #[.slice q L'.length d, .int .i64 r', .int .i64 k'] 26)).drew) HM.out hs4 (by simp) (fun k hk => heap_alloc_old w4 _ hk) HLt.out HBs.out (H4.out.1.mono (fun j hj => ⟨⟨fun h => by have := HLt.out _ h; have := HSz.out; omega, HPn.out j (by have := HSz.out; omega)⟩, by have := HSz.out; omega⟩)) HB5.out.drew HQ.out _ _ _⟩
set_option maxHeartbeats 2000000 in
set_option maxRecDepth 100000 in
theorem does_step {V : World → Prop} {B : Nat} {Dq : World → Nat → (Nat → Prop) → DM Int → Prop} (M : MethI V B Dq) (b : Nat) (O P : Nat → Prop) (D E : DM Int) (v : Value) (o : OpI) (hk : o.kind = 3) (w : World) (hD : Dq w b O D) (h : It (fun j => ¬ O j ∧ P j) w v E.L) (hP : ∀ j, w.heap.size ≤ j → P j) (hs : Small 100000 D) (hsE : Small 100000 E) (hN : o.name.length ≤ 140737488351232) :
    Calls Tryd.prog 13 #[ptr b, rdV v E.rooms E.left, opV o] w fun e w' => ∃ q d, e = .returned (.tuple #[rdV (.slice q (doD E o).L.length d) (doD E o).rooms (doD E o).left, .bool (told D E o)]) ∧ Hid (∃ O', Dq w' b O' (doD D o) ∧ It (fun j => ¬ O' j ∧ P j) w' (.slice q (doD E o).L.length d) (doD E o).L ∧ Grew w O O' ∧ Keep (Off O) w w') := by
  rw [show doD D o = stepD D by simp [doD, hk], show doD E o = stepD E by simp [doD, hk], show told D E o = (stepB D == stepB E) by simp [told, hk]]
  obtain ⟨L, r, k⟩ := E
  simp only at h ⊢
  have hb3 := boxed3_below w v r k o
  obtain ⟨p, c, rfl, -⟩ := h.shape
  have HP := hid (rstep_any p L.length c r k (boxed3 w (.slice p L.length c) r k o) (by have := hsE.left; simp only at this; omega))
  have HI := hid ((h.fresh.below hb3).mono (Q := fun j => (¬ O j ∧ P j) ∧ j ≠ w.heap.size + 1 + 1) (fun j hj => ⟨hj.1, by have := hj.2; omega⟩))
  have HOp := hid (boxed3_op w (.slice p L.length c) r k o)
  have HRs := hid (boxed3_res w (.slice p L.length c) r k o)
  have HSz := hid (boxed3_size w (.slice p L.length c) r k o)
  have HB3 := hid hb3
  have HD := hid hD
  have HM := hid M
  have HPn := hid hP
  have HDo := hid fun (W : World) (h : Dq W b O D) => M.step b O D W h hs
  obtain ⟨kind, y, n⟩ := o
  simp only at hk HP HOp HRs HSz HB3 HDo ⊢
  subst hk
  rw [show stepD (⟨L, r, k⟩ : DM Int) = ⟨L, r, k - 1⟩ from rfl, show stepB (⟨L, r, k⟩ : DM Int) = decide (k ≠ 0) from rfl]
  simp only
  obtain ⟨k', hk'⟩ : ∃ k', k' = k - 1 := ⟨_, rfl⟩
  rw [← hk'] at HP ⊢
  generalize decide (k ≠ 0) = was at *
  generalize stepB D = was2 at *
  generalize stepD D = DD at *
  clear hk'
  clear h hD hb3 M hs hP hsE
  go_enter Tryd.func13, Tryd.ntmps13
  go_wp2_with fail
  refine HP.out.mono ?_; rintro e w4 ⟨rfl, hh⟩
  have H4 := hid (HI.out.below hh.out)
  have hs4 : w.heap.size + 3 ≤ w4.heap.size := by have := hh.out.size; have := HSz.out; omega
  have hop4 := (hh.out.block (w.heap.size + 1) (by have := HSz.out; omega)).trans HOp.out
  have hrs4 := (hh.out.block (w.heap.size + 2) (by have := HSz.out; omega)).trans HRs.out
  have HB5 := hid ((HB3.out.trans (hh.out.mono HB3.out.size)).trans ((below_alloc w4 (.cells #[.slice p L.length c, .int .i64 r, .int .i64 k'] 26)).mono (by omega)))
  obtain ⟨a0, a1, a2⟩ := op_facts ((heap_alloc_old w4 (.cells #[.slice p L.length c, .int .i64 r, .int .i64 k'] 26) (by omega)).trans hop4)
  have HD5 := hid (HM.out.below HD.out HB5.out)
  have HO6 := hid ((heap_alloc_old w4 (.cells #[.slice p L.length c, .int .i64 r, .int .i64 k'] 26) (by omega)).trans hop4)
  have HR6 := hid ((heap_alloc_old w4 (.cells #[.slice p L.length c, .int .i64 r, .int .i64 k'] 26) (by omega)).trans hrs4)
  have HS6 := hid (heap_alloc_new w4 (.cells #[.slice p L.length c, .int .i64 r, .int .i64 k'] 26))
  have HD6 : Hid (Dq (w4.alloc (.cells #[.slice p L.length c, .int .i64 r, .int .i64 k'] 26)).drew b O D) := HM.out.turn HD5.out (fun _ _ => rfl) (Nat.le_refl _)
  have HLt := hid (HM.out.lt HD.out)
  have HBs := hid (HM.out.base HD.out)
  clear hh hop4 hrs4
  have HX : Hid (∀ w6 : World, (∃ O', Dq w6 b O' DD ∧ Grew (w4.alloc (.cells #[.slice p L.length c, .int .i64 r, .int .i64 k'] 26)).drew O O' ∧ Keep (Off O) (w4.alloc (.cells #[.slice p L.length c, .int .i64 r, .int .i64 k'] 26)).drew w6) → ∃ O', w4.heap.size + 1 ≤ w6.heap.size ∧
      (w6.cell? ⟨w4.heap.size, 0, none⟩ = some (.slice p L.length c) ∧ w6.cell? ⟨w4.heap.size, 1, none⟩ = some (.int .i64 r) ∧ w6.cell? ⟨w4.heap.size, 2, none⟩ = some (.int .i64 k')) ∧ (w6.frozen? ⟨w4.heap.size, 0, none⟩ = false ∧ w6.frozen? ⟨w4.heap.size, 1, none⟩ = false ∧ w6.frozen? ⟨w4.heap.size, 2, none⟩ = false) ∧
      (w6.cell? ⟨w.heap.size + 1 + 1, 0, none⟩ = some (.slice none 0 0) ∧ w6.cell? ⟨w.heap.size + 1 + 1, 1, none⟩ = some (.int .i64 0) ∧ w6.cell? ⟨w.heap.size + 1 + 1, 2, none⟩ = some (.int .i64 0)) ∧ (w6.frozen? ⟨w.heap.size + 1 + 1, 0, none⟩ = false ∧ w6.frozen? ⟨w.heap.size + 1 + 1, 1, none⟩ = false ∧ w6.frozen? ⟨w.heap.size + 1 + 1, 2, none⟩ = false) ∧
      Hid (w6.heap[w.heap.size + 1 + 1]? = some (.cells #[.slice none 0 0, .int .i64 0, .int .i64 0] 26 (0, 0))) ∧ Hid (Dq w6 b O' DD ∧ Grew (w4.alloc (.cells #[.slice p L.length c, .int .i64 r, .int .i64 k'] 26)).drew O O' ∧ Keep (Off O) (w4.alloc (.cells #[.slice p L.length c, .int .i64 r, .int .i64 k'] 26)).drew w6)) := fun w6 ⟨O', h1, h2, h3⟩ => by
    have hsz := h3.size
    simp only [World.drew] at hsz
    have e1 : (w4.alloc (.cells #[.slice p L.length c, .int .i64 r, .int .i64 k'] 26)).heap.size = w4.heap.size + 1 := by simp
    have b1 := (h3.block w4.heap.size (show w4.heap.size < (w4.alloc _).heap.size by rw [e1]; omega) (fun h => by have := HLt.out _ h; omega)).trans HS6.out
    have b2 := (h3.block (w.heap.size + 1 + 1) (show w.heap.size + 1 + 1 < (w4.alloc _).heap.size by rw [e1]; omega) (fun h => by have := HLt.out _ h; omega)).trans HR6.out
    obtain ⟨c1, f1⟩ := rd_facts b1
    obtain ⟨c2, f2⟩ := rd_facts b2
    exact ⟨O', by omega, c1, f1, c2, f2, b2, h1, h2, h3⟩
  go_wp2_with fail
  go_region_law (go_simp; go_at_call 15; refine (HDo.out _ HD6.out).mono ?_; rintro e w6 ⟨rfl, hh⟩; obtain ⟨O', hz6, ⟨u0, u1, u2⟩, ⟨t0, t1, t2⟩, ⟨m0, m1, m2⟩, ⟨s0, s1, s2⟩, HRw, HQ⟩ := HX.out w6 hh.out; clear hh)
  all_goals go_wp2_with fail
  all_goals refine bodyPost_ret (v := .tuple #[rdV (.slice p L.length c) r k', .bool (was2 == was)]) ?_ rfl ?_
  all_goals first
    | exact ret_rd2 rfl rfl rfl (heap_setCell_same _ (w.heap.size + 1 + 1) 2 _ _ _ (heap_setCell_same _ (w.heap.size + 1 + 1) 1 _ _ _ (heap_setCell_same _ (w.heap.size + 1 + 1) 0 _ _ _ HRw.out)))
    | exact ⟨p, c, rfl, does_finish (W5 := (w4.alloc (.cells #[.slice p L.length c, .int .i64 r, .int .i64 k'] 26)).drew) HM.out hs4 (by simp) (fun k hk => heap_alloc_old w4 _ hk) HLt.out HBs.out H4.out HB5.out.drew HQ.out _ _ _⟩
set_option maxHeartbeats 2000000 in
set_option maxRecDepth 100000 in
theorem does_get {V : World → Prop} {B : Nat} {Dq : World → Nat → (Nat → Prop) → DM Int → Prop} (M : MethI V B Dq) (b : Nat) (O P : Nat → Prop) (D E : DM Int) (v : Value) (o : OpI) (hk : o.kind = 2) (w : World) (hD : Dq w b O D) (h : It (fun j => ¬ O j ∧ P j) w v E.L) (hP : ∀ j, w.heap.size ≤ j → P j) (hs : Small 100000 D) (hsE : Small 100000 E) (hN : o.name.length ≤ 140737488351232) :
    Calls Tryd.prog 13 #[ptr b, rdV v E.rooms E.left, opV o] w fun e w' => ∃ q d, e = .returned (.tuple #[rdV (.slice q (doD E o).L.length d) (doD E o).rooms (doD E o).left, .bool (told D E o)]) ∧ Hid (∃ O', Dq w' b O' (doD D o) ∧ It (fun j => ¬ O' j ∧ P j) w' (.slice q (doD E o).L.length d) (doD E o).L ∧ Grew w O O' ∧ Keep (Off O) w w') := by
  rw [show doD D o = D by simp [doD, hk], show doD E o = E by simp [doD, hk], show told D E o = ((getL o.name D.L).getD 0 == (getL o.name E.L).getD 0 && (getL o.name D.L).isSome == (getL o.name E.L).isSome) by simp [told, hk]]
  obtain ⟨L, r, k⟩ := E
  simp only at h ⊢
  have hb3 := boxed3_below w v r k o
  obtain ⟨p, c, rfl, -⟩ := h.shape
  have HG := hid (M.get b O D o.name (boxed3 w (.slice p L.length c) r k o) (M.below hD hb3) hs hN)
  have HP := hid fun (W : World) (hb : Below w.heap.size w W) => rget_any (fun j => ¬ O j ∧ P j) (.slice p L.length c) L r k o.name W (h.below hb) (by have := hsE.len; simp only at this; omega)
  have HIn := hid ((h.fresh.below hb3).mono (Q := fun j => (¬ O j ∧ P j) ∧ j ≠ w.heap.size + 1 + 1) (fun j hj => ⟨hj.1, by have := hj.2; omega⟩))
  have HRd : Hid ((boxed3 w (.slice p L.length c) r k o).heap[w.heap.size]? = some (.cells #[.slice p L.length c, .int .i64 r, .int .i64 k] 26 (0, 0))) := (heap_alloc_old _ _ (by simp; omega)).trans (alloc2_old w _ _)
  have HOp := hid (boxed3_op w (.slice p L.length c) r k o)
  have HRs := hid (boxed3_res w (.slice p L.length c) r k o)
  have HSz := hid (boxed3_size w (.slice p L.length c) r k o)
  have HB3 := hid hb3
  have HD := hid hD
  have HM := hid M
  have HPn := hid hP
  have HLt := hid (M.lt hD)
  have HBs := hid (M.base hD)
  obtain ⟨kind, y, n⟩ := o
  simp only at hk HP HOp HRs HSz HB3 HG HIn HRd ⊢
  subst hk
  generalize (getL n L).getD 0 = gv at *
  generalize (getL n L).isSome = gb at *
  generalize (getL n D.L).getD 0 = gv2 at *
  generalize (getL n D.L).isSome = gb2 at *
  clear h hD hb3 M hs hP hsE
  by_cases e : gv2 = gv
  · subst e
    rw [show (gv2 == gv2 && gb2 == gb) = (gb2 == gb) by simp]
    go_enter Tryd.func13, Tryd.ntmps13
    go_wp2_with fail
    refine HG.out.mono ?_; rintro e w4 ⟨rfl, hb4⟩
    have hs4 : w.heap.size + 3 ≤ w4.heap.size := by have := hb4.out.size; have := HSz.out; omega
    have K4 := hid (HB3.out.trans (hb4.out.mono HB3.out.size))
    obtain ⟨a0, a1, a2⟩ := op_facts ((hb4.out.block (w.heap.size + 1) (by have := HSz.out; omega)).trans HOp.out)
    obtain ⟨⟨d0, d1, d2⟩, -⟩ := rd_facts ((hb4.out.block w.heap.size (by have := HSz.out; omega)).trans HRd.out)
    have HRd4 := hid ((hb4.out.block w.heap.size (by have := HSz.out; omega)).trans HRd.out)
    have HRs4 := hid ((hb4.out.block (w.heap.size + 1 + 1) (by have := HSz.out; omega)).trans HRs.out)
    have HI4 := hid (HIn.out.below hb4.out)
    clear hb4
    go_wp2_with fail
    refine (HP.out _ K4.out).mono ?_; rintro e w6 ⟨rfl, hb6⟩
    have K6 := hid (K4.out.trans (hb6.out.mono K4.out.size))
    obtain ⟨⟨u0, u1, u2⟩, -⟩ := rd_facts ((hb6.out.block w.heap.size (by omega)).trans HRd4.out)
    have HRw := hid ((hb6.out.block (w.heap.size + 1 + 1) (by omega)).trans HRs4.out)
    obtain ⟨⟨m0, m1, m2⟩, s0, s1, s2⟩ := rd_facts HRw.out
    have HB6 := hid hb6.out
    clear hb6 d0 d1 d2 a0 a1 a2
    go_wp2_with fail
    refine bodyPost_ret (v := .tuple #[rdV (.slice p L.length c) r k, .bool (gb2 == gb)]) ?_ rfl ?_
    · exact ret_rd2 rfl rfl rfl (heap_setCell_same _ (w.heap.size + 1 + 1) 2 _ _ _ (heap_setCell_same _ (w.heap.size + 1 + 1) 1 _ _ _ (heap_setCell_same _ (w.heap.size + 1 + 1) 0 _ _ _ HRw.out)))
    · exact ⟨p, c, rfl, does_finish (W5 := w4) HM.out hs4 (Nat.le_refl _) (fun k hk => rfl) HLt.out HBs.out HI4.out K4.out ⟨HM.out.below HD.out K6.out, fun k hk => .inl hk, Keep.of_below HB6.out⟩ _ _ _⟩
  · have hne : (gv2 == gv) = false := beq_eq_false_iff_ne.2 e
    rw [show (gv2 == gv && gb2 == gb) = false by rw [hne]; rfl]
    clear e
    go_enter Tryd.func13, Tryd.ntmps13
    go_wp2_with fail
    refine HG.out.mono ?_; rintro e w4 ⟨rfl, hb4⟩
    have hs4 : w.heap.size + 3 ≤ w4.heap.size := by have := hb4.out.size; have := HSz.out; omega
    have K4 := hid (HB3.out.trans (hb4.out.mono HB3.out.size))
    obtain ⟨a0, a1, a2⟩ := op_facts ((hb4.out.block (w.heap.size + 1) (by have := HSz.out; omega)).trans HOp.out)
    obtain ⟨⟨d0, d1, d2⟩, -⟩ := rd_facts ((hb4.out.block w.heap.size (by have := HSz.out; omega)).trans HRd.out)
    have HRd4 := hid ((hb4.out.block w.heap.size (by have := HSz.out; omega)).trans HRd.out)
    have HRs4 := hid ((hb4.out.block (w.heap.size + 1 + 1) (by have := HSz.out; omega)).trans HRs.out)
    have HI4 := hid (HIn.out.below hb4.out)
    clear hb4
    go_wp2_with fail
    refine (HP.out _ K4.out).mono ?_; rintro e w6 ⟨rfl, hb6⟩
    have K6 := hid (K4.out.trans (hb6.out.mono K4.out.size))
    obtain ⟨⟨u0, u1, u2⟩, -⟩ := rd_facts ((hb6.out.block w.heap.size (by omega)).trans HRd4.out)
    have HRw := hid ((hb6.out.block (w.heap.size + 1 + 1) (by omega)).trans HRs4.out)
    obtain ⟨⟨m0, m1, m2⟩, s0, s1, s2⟩ := rd_facts HRw.out
    have HB6 := hid hb6.out
    clear hb6 d0 d1 d2 a0 a1 a2
    go_wp2_with fail
    refine bodyPost_ret (v := .tuple #[rdV (.slice p L.length c) r k, .bool false]) ?_ rfl ?_
    · exact ret_rd2 rfl rfl rfl (heap_setCell_same _ (w.heap.size + 1 + 1) 2 _ _ _ (heap_setCell_same _ (w.heap.size + 1 + 1) 1 _ _ _ (heap_setCell_same _ (w.heap.size + 1 + 1) 0 _ _ _ HRw.out)))
    · exact ⟨p, c, rfl, does_finish (W5 := w4) HM.out hs4 (Nat.le_refl _) (fun k hk => rfl) HLt.out HBs.out HI4.out K4.out ⟨HM.out.below HD.out K6.out, fun k hk => .inl hk, Keep.of_below HB6.out⟩ _ _ _⟩
set_option maxHeartbeats 2000000 in
set_option maxRecDepth 100000 in
theorem does_other {V : World → Prop} {B : Nat} {Dq : World → Nat → (Nat → Prop) → DM Int → Prop} (M : MethI V B Dq) (b : Nat) (O P : Nat → Prop) (D E : DM Int) (v : Value) (o : OpI) (h0 : o.kind ≠ 0) (h1 : o.kind ≠ 1) (h2 : o.kind ≠ 2) (h3 : o.kind ≠ 3) (w : World) (hD : Dq w b O D) (h : It (fun j => ¬ O j ∧ P j) w v E.L) (hP : ∀ j, w.heap.size ≤ j → P j) :
    Calls Tryd.prog 13 #[ptr b, rdV v E.rooms E.left, opV o] w fun e w' => ∃ q d, e = .returned (.tuple #[rdV (.slice q (doD E o).L.length d) (doD E o).rooms (doD E o).left, .bool (told D E o)]) ∧ Hid (∃ O', Dq w' b O' (doD D o) ∧ It (fun j => ¬ O' j ∧ P j) w' (.slice q (doD E o).L.length d) (doD E o).L ∧ Grew w O O' ∧ Keep (Off O) w w') := by
  rw [show doD D o = D by simp [doD, h0, h1, h3], show doD E o = E by simp [doD, h0, h1, h3], show told D E o = true by simp [told, h0, h1, h2, h3]]
  obtain ⟨L, r, k⟩ := E
  simp only at h ⊢
  obtain ⟨p, c, rfl, -⟩ := h.shape
  have HI := hid h
  have HD := hid hD
  have HM := hid M
  have HPn := hid hP
  have e0 : (o.kind == 0) = false := beq_eq_false_iff_ne.2 h0
  have e1 : (o.kind == 1) = false := beq_eq_false_iff_ne.2 h1
  have e2 : (o.kind == 2) = false := beq_eq_false_iff_ne.2 h2
  have e3 : (o.kind == 3) = false := beq_eq_false_iff_ne.2 h3
  obtain ⟨kind, y, n⟩ := o
  simp only at e0 e1 e2 e3 ⊢
  clear h hD M h0 h1 h2 h3 hP HPn
  go_enter Tryd.func13, Tryd.ntmps13
  go_wp2_with fail
  have hnew := heap_alloc_new ((w.alloc (.cells #[.slice p L.length c, .int .i64 r, .int .i64 k] 26)).alloc (.cells #[.int .i64 kind, .int .i64 y, txt n] 35)) (.cells #[.slice p L.length c, .int .i64 r, .int .i64 k] 26)
  rw [show ((w.alloc (.cells #[.slice p L.length c, .int .i64 r, .int .i64 k] 26)).alloc (.cells #[.int .i64 kind, .int .i64 y, txt n] 35)).heap.size = w.heap.size + 1 + 1 by simp] at hnew
  have hbl : Below w.heap.size w (((w.alloc (.cells #[.slice p L.length c, .int .i64 r, .int .i64 k] 26)).alloc (.cells #[.int .i64 kind, .int .i64 y, txt n] 35)).alloc (.cells #[.slice p L.length c, .int .i64 r, .int .i64 k] 26)) := (alloc2_below w _ _).alloc (by simp; omega) _
  refine bodyPost_ret (v := .tuple #[rdV (.slice p L.length c) r k, .bool true]) ?_ rfl ?_
  · exact ret_rd2 rfl rfl rfl hnew
  · exact ⟨p, c, rfl, O, HM.out.below HD.out hbl, HI.out.below hbl, fun k hk => .inl hk, Keep.of_below hbl⟩
/-- does -/
theorem does_both {V : World → Prop} {B : Nat} {Dq : World → Nat → (Nat → Prop) → DM Int → Prop} (M : MethI V B Dq) (b : Nat) (O P : Nat → Prop) (D E : DM Int) (v : Value) (o : OpI) (w : World) (hD : Dq w b O D) (h : It (fun j => ¬ O j ∧ P j) w v E.L) (hP : ∀ j, w.heap.size ≤ j → P j) (hs : Small 100000 D) (hsE : Small 100000 E) (hN : o.name.length ≤ 140737488351232) :
    Calls Tryd.prog 13 #[ptr b, rdV v E.rooms E.left, opV o] w fun e w' => ∃ q d, e = .returned (.tuple #[rdV (.slice q (doD E o).L.length d) (doD E o).rooms (doD E o).left, .bool (told D E o)]) ∧ Hid (∃ O', Dq w' b O' (doD D o) ∧ It (fun j => ¬ O' j ∧ P j) w' (.slice q (doD E o).L.length d) (doD E o).L ∧ Grew w O O' ∧ Keep (Off O) w w') := by
  by_cases h0 : o.kind = 0
  · exact does_put M b O P D E v o h0 w hD h hP hs hsE hN
  by_cases h1 : o.kind = 1
  · exact does_del M b O P D E v o h1 w hD h hP hs hsE hN
  by_cases h2 : o.kind = 2
  · exact does_get M b O P D E v o h2 w hD h hP hs hsE hN
  by_cases h3 : o.kind = 3
  · exact does_step M b O P D E v o h3 w hD h hP hs hsE hN
  exact does_other M b O P D E v o h0 h1 h2 h3 w hD h hP
/-- does, on a dict and the document's that are the same -/
theorem does_any {V : World → Prop} {B : Nat} {Dq : World → Nat → (Nat → Prop) → DM Int → Prop} (M : MethI V B Dq) (b : Nat) (O P : Nat → Prop) (D : DM Int) (v : Value) (o : OpI) (w : World) (hD : Dq w b O D) (h : It (fun j => ¬ O j ∧ P j) w v D.L) (hP : ∀ j, w.heap.size ≤ j → P j) (hs : Small 100000 D) (hN : o.name.length ≤ 140737488351232) :
    Calls Tryd.prog 13 #[ptr b, rdV v D.rooms D.left, opV o] w fun e w' => ∃ q d, e = .returned (.tuple #[rdV (.slice q (doD D o).L.length d) (doD D o).rooms (doD D o).left, .bool true]) ∧ Hid (∃ O', Dq w' b O' (doD D o) ∧ It (fun j => ¬ O' j ∧ P j) w' (.slice q (doD D o).L.length d) (doD D o).L ∧ Grew w O O' ∧ Keep (Off O) w w') := by
  have := does_both M b O P D D v o w hD h hP hs hs hN
  rw [told_self] at this
  exact this

end Go.Proofs.YtphegggekcjenaaDoor
