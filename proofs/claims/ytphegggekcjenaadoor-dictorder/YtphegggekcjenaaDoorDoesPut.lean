/- A Put on a dict and on the document's: the law's does. -/
import Derived.Test.YtphegggekcjenaaDoorMeth
namespace Go.Proofs.YtphegggekcjenaaDoor
open Go.RowKit

/-- whether the two tell the same -/
def told (D E : DM Int) (o : OpI) : Bool :=
  if o.kind = 0 then (hasL o.name D.L == hasL o.name E.L) else if o.kind = 1 then (hasL o.name D.L == hasL o.name E.L) else if o.kind = 2 then ((getL o.name D.L).getD 0 == (getL o.name E.L).getD 0 && (getL o.name D.L).isSome == (getL o.name E.L).isSome) else if o.kind = 3 then (stepB D == stepB E) else true
theorem told_self (D : DM Int) (o : OpI) : told D D o = true := by
  unfold told
  repeat' split
  all_goals simp
/-- what is left to say behind the store of the answer -/
theorem does_finish {V : World → Prop} {B : Nat} {Dq : World → Nat → (Nat → Prop) → DM Int → Prop} (M : MethI V B Dq) {w w4 W5 w6 : World} {b : Nat} {O : Nat → Prop} {D' : DM Int} {l : Its Int} {v : Value} {P : Nat → Prop} (hs4 : w.heap.size + 3 ≤ w4.heap.size) (hsz5 : w4.heap.size ≤ W5.heap.size) (h45 : ∀ k, k < w4.heap.size → W5.heap[k]? = w4.heap[k]?) (hlt : ∀ k, O k → k < w.heap.size) (hB : B ≤ w.heap.size)
    (h4 : It (fun j => (¬ O j ∧ P j) ∧ j ≠ w.heap.size + 1 + 1) w4 v l) (h5 : Below w.heap.size w W5) {O' : Nat → Prop} (hQ : Dq w6 b O' D' ∧ Grew W5 O O' ∧ Keep (Off O) W5 w6) (x y z : Value) :
    ∃ O', Dq (((w6.setCell ⟨w.heap.size + 1 + 1, 0, none⟩ x).setCell ⟨w.heap.size + 1 + 1, 1, none⟩ y).setCell ⟨w.heap.size + 1 + 1, 2, none⟩ z) b O' D' ∧ It (fun j => ¬ O' j ∧ P j) (((w6.setCell ⟨w.heap.size + 1 + 1, 0, none⟩ x).setCell ⟨w.heap.size + 1 + 1, 1, none⟩ y).setCell ⟨w.heap.size + 1 + 1, 2, none⟩ z) v l ∧ Grew w O O' ∧ Keep (Off O) w (((w6.setCell ⟨w.heap.size + 1 + 1, 0, none⟩ x).setCell ⟨w.heap.size + 1 + 1, 1, none⟩ y).setCell ⟨w.heap.size + 1 + 1, 2, none⟩ z) := by
  obtain ⟨hD, hG, hK⟩ := hQ
  have hne : ∀ k, k ≠ w.heap.size + 1 + 1 → (((w6.setCell ⟨w.heap.size + 1 + 1, 0, none⟩ x).setCell ⟨w.heap.size + 1 + 1, 1, none⟩ y).setCell ⟨w.heap.size + 1 + 1, 2, none⟩ z).heap[k]? = w6.heap[k]? := fun k hk => by
    rw [heap_setCell_other _ _ _ _ (by simpa using hk), heap_setCell_other _ _ _ _ (by simpa using hk), heap_setCell_other _ _ _ _ (by simpa using hk)]
  have hsz : (((w6.setCell ⟨w.heap.size + 1 + 1, 0, none⟩ x).setCell ⟨w.heap.size + 1 + 1, 1, none⟩ y).setCell ⟨w.heap.size + 1 + 1, 2, none⟩ z).heap.size = w6.heap.size := by simp
  have hno : ¬ O' (w.heap.size + 1 + 1) := fun h => by
    rcases hG _ h with g | g
    · have := hlt _ g; omega
    · omega
  have h56 := hK.size
  refine ⟨O', M.turn hD (fun k hk => hne k (fun e => by rcases hk with hk | hk; omega; exact hno (e ▸ hk))) (by rw [hsz]; exact Nat.le_refl _), ?_, fun k hk => ?_, ⟨hK.os.trans h5.os, hK.tape.trans h5.tape, hK.output.trans h5.output, by rw [hsz]; have := h5.size; omega, fun k hk ho => ?_⟩⟩
  · rcases h4 with h | ⟨g, o, c, h1, h2, h3, h4, h6⟩
    · exact .inl h
    · have hb := (hne g h3.2).trans ((hK.block g (by omega) h3.1.1).trans (h45 g h4))
      refine .inr ⟨g, o, c, h1, h2, ⟨fun h => ?_, h3.1.2⟩, by rw [hsz]; omega, fun i hi => ⟨cell_turn (h6 i hi).1 hb, cell_turn (h6 i hi).2 hb⟩⟩
      rcases hG _ h with g' | g'
      · exact h3.1.1 g'
      · omega
  · rcases hG k hk with g | g
    · exact .inl g
    · exact .inr (by have := h5.size; omega)
  · rw [hne k (by omega), hK.block k (by have := h5.size; omega) ho, h5.block k hk]
set_option maxHeartbeats 2000000 in
set_option maxRecDepth 100000 in
theorem does_put {V : World → Prop} {B : Nat} {Dq : World → Nat → (Nat → Prop) → DM Int → Prop} (M : MethI V B Dq) (b : Nat) (O P : Nat → Prop) (D E : DM Int) (v : Value) (o : OpI) (hk : o.kind = 0) (w : World) (hD : Dq w b O D) (h : It (fun j => ¬ O j ∧ P j) w v E.L) (hP : ∀ j, w.heap.size ≤ j → P j) (hs : Small 100000 D) (hsE : Small 100000 E) (hN : o.name.length ≤ 140737488351232) :
    Calls Tryd.prog 13 #[ptr b, rdV v E.rooms E.left, opV o] w fun e w' => ∃ q d, e = .returned (.tuple #[rdV (.slice q (doD E o).L.length d) (doD E o).rooms (doD E o).left, .bool (told D E o)]) ∧ Hid (∃ O', Dq w' b O' (doD D o) ∧ It (fun j => ¬ O' j ∧ P j) w' (.slice q (doD E o).L.length d) (doD E o).L ∧ Grew w O O' ∧ Keep (Off O) w w') := by
  rw [show doD D o = putD D o.name o.v by simp [doD, hk], show doD E o = putD E o.name o.v by simp [doD, hk], show told D E o = (hasL o.name D.L == hasL o.name E.L) by simp [told, hk]]
  obtain ⟨L, r, k⟩ := E
  simp only at h ⊢
  have hb3 := boxed3_below w v r k o
  obtain ⟨p, c, rfl, -⟩ := h.shape
  have HP := hid (rput_any (fun j => ¬ O j ∧ P j) (.slice p L.length c) L r k o.name o.v (boxed3 w (.slice p L.length c) r k o) (h.below hb3) (by have := hsE.len; simp only at this; omega) (by have := hsE.rooms; simp only at this; omega) (by have := hsE.left; simp only at this; omega))
  have HOp := hid (boxed3_op w (.slice p L.length c) r k o)
  have HRs := hid (boxed3_res w (.slice p L.length c) r k o)
  have HSz := hid (boxed3_size w (.slice p L.length c) r k o)
  have HB3 := hid hb3
  have HD := hid hD
  have HM := hid M
  have HPn := hid hP
  have HDo := hid fun (W : World) (h : Dq W b O D) => M.put b O D o.name o.v W h hs hN
  obtain ⟨kind, y, n⟩ := o
  simp only at hk HP HOp HRs HSz HB3 HDo ⊢
  subst hk
  generalize putD ⟨L, r, k⟩ n y = D' at *
  obtain ⟨L', r', k'⟩ := D'
  simp only at HP ⊢
  generalize hasL n L = was at *
  generalize hasL n D.L = was2 at *
  generalize putD D n y = DD at *
  clear h hD hb3 M hs hP hsE
  go_enter Tryd.func13, Tryd.ntmps13
  go_wp2_with fail
  refine HP.out.mono ?_; rintro e w4 ⟨q, d, rfl, hh⟩
  have H4 := hid hh.out
  have hs4 : w.heap.size + 3 ≤ w4.heap.size := by have := hh.out.2.size; have := HSz.out; omega
  have hop4 := (hh.out.2.block (w.heap.size + 1) (by have := HSz.out; omega)).trans HOp.out
  have hrs4 := (hh.out.2.block (w.heap.size + 2) (by have := HSz.out; omega)).trans HRs.out
  have HB5 := hid ((HB3.out.trans (hh.out.2.mono HB3.out.size)).trans ((below_alloc w4 (.cells #[.slice q L'.length d, .int .i64 r', .int .i64 k'] 26)).mono (by omega)))
  obtain ⟨a0, a1, a2⟩ := op_facts ((heap_alloc_old w4 (.cells #[.slice q L'.length d, .int .i64 r', .int .i64 k'] 26) (by omega)).trans hop4)
  have HD5 := hid (HM.out.below HD.out HB5.out)
  have HO6 := hid ((heap_alloc_old w4 (.cells #[.slice q L'.length d, .int .i64 r', .int .i64 k'] 26) (by omega)).trans hop4)
  have HR6 := hid ((heap_alloc_old w4 (.cells #[.slice q L'.length d, .int .i64 r', .int .i64 k'] 26) (by omega)).trans hrs4)
  have HS6 := hid (heap_alloc_new w4 (.cells #[.slice q L'.length d, .int .i64 r', .int .i64 k'] 26))
  have HD6 : Hid (Dq (w4.alloc (.cells #[.slice q L'.length d, .int .i64 r', .int .i64 k'] 26)).drew b O D) := HM.out.turn HD5.out (fun _ _ => rfl) (Nat.le_refl _)
  have HLt := hid (HM.out.lt HD.out)
  have HBs := hid (HM.out.base HD.out)
  clear hh hop4 hrs4
  have HX : Hid (∀ w6 : World, (∃ O', Dq w6 b O' DD ∧ Grew (w4.alloc (.cells #[.slice q L'.length d, .int .i64 r', .int .i64 k'] 26)).drew O O' ∧ Keep (Off O) (w4.alloc (.cells #[.slice q L'.length d, .int .i64 r', .int .i64 k'] 26)).drew w6) → ∃ O', w4.heap.size + 1 ≤ w6.heap.size ∧
      (w6.cell? ⟨w4.heap.size, 0, none⟩ = some (.slice q L'.length d) ∧ w6.cell? ⟨w4.heap.size, 1, none⟩ = some (.int .i64 r') ∧ w6.cell? ⟨w4.heap.size, 2, none⟩ = some (.int .i64 k')) ∧ (w6.frozen? ⟨w4.heap.size, 0, none⟩ = false ∧ w6.frozen? ⟨w4.heap.size, 1, none⟩ = false ∧ w6.frozen? ⟨w4.heap.size, 2, none⟩ = false) ∧
      (w6.cell? ⟨w.heap.size + 1 + 1, 0, none⟩ = some (.slice none 0 0) ∧ w6.cell? ⟨w.heap.size + 1 + 1, 1, none⟩ = some (.int .i64 0) ∧ w6.cell? ⟨w.heap.size + 1 + 1, 2, none⟩ = some (.int .i64 0)) ∧ (w6.frozen? ⟨w.heap.size + 1 + 1, 0, none⟩ = false ∧ w6.frozen? ⟨w.heap.size + 1 + 1, 1, none⟩ = false ∧ w6.frozen? ⟨w.heap.size + 1 + 1, 2, none⟩ = false) ∧
      Hid (w6.heap[w.heap.size + 1 + 1]? = some (.cells #[.slice none 0 0, .int .i64 0, .int .i64 0] 26 (0, 0))) ∧ Hid (Dq w6 b O' DD ∧ Grew (w4.alloc (.cells #[.slice q L'.length d, .int .i64 r', .int .i64 k'] 26)).drew O O' ∧ Keep (Off O) (w4.alloc (.cells #[.slice q L'.length d, .int .i64 r', .int .i64 k'] 26)).drew w6)) := fun w6 ⟨O', h1, h2, h3⟩ => by
    have hsz := h3.size
    simp only [World.drew] at hsz
    have e1 : (w4.alloc (.cells #[.slice q L'.length d, .int .i64 r', .int .i64 k'] 26)).heap.size = w4.heap.size + 1 := by simp
    have b1 := (h3.block w4.heap.size (show w4.heap.size < (w4.alloc _).heap.size by rw [e1]; omega) (fun h => by have := HLt.out _ h; omega)).trans HS6.out
    have b2 := (h3.block (w.heap.size + 1 + 1) (show w.heap.size + 1 + 1 < (w4.alloc _).heap.size by rw [e1]; omega) (fun h => by have := HLt.out _ h; omega)).trans HR6.out
    obtain ⟨c1, f1⟩ := rd_facts b1
    obtain ⟨c2, f2⟩ := rd_facts b2
    exact ⟨O', by omega, c1, f1, c2, f2, b2, h1, h2, h3⟩
  go_wp2_with fail
  go_region_law (go_simp; go_at_call 22; refine (HDo.out _ HD6.out).mono ?_; rintro e w6 ⟨rfl, hh⟩; obtain ⟨O', hz6, ⟨u0, u1, u2⟩, ⟨t0, t1, t2⟩, ⟨m0, m1, m2⟩, ⟨s0, s1, s2⟩, HRw, HQ⟩ := HX.out w6 hh.out; clear hh)
  all_goals go_wp2_with fail
  all_goals refine bodyPost_ret (v := .tuple #[rdV (.slice q L'.length d) r' k', .bool (was2 == was)]) ?_ rfl ?_
  all_goals first
    | exact ret_rd2 rfl rfl rfl (heap_setCell_same _ (w.heap.size + 1 + 1) 2 _ _ _ (heap_setCell_same _ (w.heap.size + 1 + 1) 1 _ _ _ (heap_setCell_same _ (w.heap.size + 1 + 1) 0 _ _ _ HRw.out)))
    | exact ⟨q, d, rfl, does_finish (W5 := (w4.alloc (.cells #[.slice q L'.length d, .int .i64 r', .int .i64 k'] 26)).drew) HM.out hs4 (by simp) (fun k hk => heap_alloc_old w4 _ hk) HLt.out HBs.out (H4.out.1.mono (fun j hj => ⟨⟨fun h => by have := HLt.out _ h; have := HSz.out; omega, HPn.out j (by have := HSz.out; omega)⟩, by have := HSz.out; omega⟩)) HB5.out.drew HQ.out _ _ _⟩

end Go.Proofs.YtphegggekcjenaaDoor
