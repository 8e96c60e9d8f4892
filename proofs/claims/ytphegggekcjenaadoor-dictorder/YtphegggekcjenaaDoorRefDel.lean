/- The document's dict: Delete. -/
import Derived.Test.YtphegggekcjenaaDoorRefNames
namespace Go.Proofs.YtphegggekcjenaaDoor
open Go.RowKit

theorem del_take {l : Its Int} {i : Nat} (h : i < l.length) (n : Nm) : delL n (l.take (i + 1)) = if l[i].1 = n then delL n (l.take i) else delL n (l.take i) ++ [l[i]] := by
  rw [List.take_succ_eq_append_getElem h]
  unfold delL
  rw [List.filter_append]
  by_cases e : l[i].1 = n
  · rw [if_pos e]; simp [e]
  · rw [if_neg e]; simp [e]
theorem del_less {l : Its Int} (n : Nm) : ((delL n l).length < l.length) ↔ hasL n l = true := by
  unfold delL hasL
  induction l with
  | nil => simp
  | cons x l ih =>
    have := List.length_filter_le (fun x : Nm × Int => !(x.1 == n)) l
    by_cases e : x.1 = n
    · simp [e]; omega
    · simp only [List.filter_cons, List.any_cons, List.length_cons]
      have e' : (x.1 == n) = false := beq_eq_false_iff_ne.2 e
      rw [e']
      simp only [Bool.not_false, if_true, List.length_cons, Bool.false_or]
      rw [← ih]
      omega
theorem keepN_setCell {n : Nat} {w w' : World} (h : Keep (fun j => n ≤ j) w w') (g i : Nat) (u : Value) (hg : g < n) : Keep (fun j => n ≤ j) w (w'.setCell ⟨g, i, none⟩ u) :=
  ⟨h.os, h.tape, h.output, by simpa using h.size, fun k hk hkb => (heap_setCell_other w' ⟨g, i, none⟩ k u (by simp; omega)).trans (h.block k hk hkb)⟩
theorem keepN_setRow {n : Nat} {w w' : World} (h : Keep (fun j => n ≤ j) w w') (g : Nat) (cs : Array Value) (hg : g < n) : Keep (fun j => n ≤ j) w (w'.setRow g cs) :=
  ⟨h.os, h.tape, h.output, by simpa using h.size, fun k hk hkb => (setRow_other w' g k cs (by omega)).trans (h.block k hk hkb)⟩
set_option maxHeartbeats 4000000 in
set_option maxRecDepth 100000 in
/-- ref Delete -/
theorem rdel_any (P : Nat → Prop) (v : Value) (l : Its Int) (r k : Nat) (n : Nm) (w : World) (h : It P w v l) (hl : l.length ≤ 800000) (hr : r ≤ 100000000) (hk : k ≤ 100000000) :
    Calls Tryd.prog 32 #[rdV v r k, txt n] w fun e w' => ∃ q d, e = .returned (.tuple #[rdV (.slice q (delD ⟨l, r, k⟩ n).L.length d) (delD ⟨l, r, k⟩ n).rooms (delD ⟨l, r, k⟩ n).left, .bool (hasL n l)]) ∧ Hid (It (fun j => w.heap.size ≤ j) w' (.slice q (delD ⟨l, r, k⟩ n).L.length d) (delD ⟨l, r, k⟩ n).L ∧ Below w.heap.size w w') := by
  obtain ⟨p, c, rfl, -⟩ := h.shape
  obtain ⟨k1, hk1⟩ : ∃ k1, k1 = k - 1 := ⟨_, rfl⟩
  have hk1b : k1 ≤ 100000000 := by omega
  have hD : delD ⟨l, r, k⟩ n = shrink ⟨delL n l, r, k1⟩ := by rw [hk1]; rfl
  rw [hD]
  obtain ⟨⟨LL, rr, kk⟩, hDD⟩ : ∃ DD : DM Int, DD = shrink ⟨delL n l, r, k1⟩ := ⟨_, rfl⟩
  rw [← hDD]
  simp only
  obtain ⟨V, hV⟩ : ∃ V, V = hasL n l := ⟨_, rfl⟩
  rw [← hV]
  have HVV := hid hV
  clear hV
  have HST := hid fun W => rstep_any p l.length c r k W (by omega)
  rw [← hk1] at HST
  have H2 := hid (alloc2_old w (.cells #[.slice p l.length c, .int .i64 r, .int .i64 k] 26) (.cells #[.slice none 0 0, .int .i64 0, .int .i64 0] 26))
  have H3 := hid (alloc2_new w (.cells #[.slice p l.length c, .int .i64 r, .int .i64 k] 26) (.cells #[.slice none 0 0, .int .i64 0, .int .i64 0] 26))
  have H4 := hid (alloc2_below w (.cells #[.slice p l.length c, .int .i64 r, .int .i64 k] 26) (.cells #[.slice none 0 0, .int .i64 0, .int .i64 0] 26))
  have HI := hid h
  have HDD := hid hDD
  have HLs := hid (del_less (l := l) n)
  clear h hD hDD hk1
  go_enter Tryd.func32, Tryd.ntmps32
  go_wp2_with fail
  refine (HST.out _).mono ?_; rintro e w1 ⟨rfl, hb1⟩
  have hs1 := hb1.out.size
  rw [show ((w.alloc (.cells #[.slice p l.length c, .int .i64 r, .int .i64 k] 26)).alloc (.cells #[.slice none 0 0, .int .i64 0, .int .i64 0] 26)).heap.size = w.heap.size + 2 by simp] at hs1
  have HA1 := hid ((hb1.out.block w.heap.size (by simp; omega)).trans H2.out)
  have HR1 := hid ((hb1.out.block (w.heap.size + 1) (by simp)).trans H3.out)
  have HB1 := hid (H4.out.trans (hb1.out.mono H4.out.size))
  clear hb1
  go_wp2_with (refine wpList_store_row rfl 26 _ _ rfl w.heap.size #[.slice p l.length c, .int .i64 r, .int .i64 k1] rfl rfl 26 _ HA1.out (infoRD _ _ _) rfl (oneRD _ _ _ _ _) ?_)
  have HA2 := hid (setRow_heap w1 w.heap.size _ #[.slice p l.length c, .int .i64 r, .int .i64 k1] _ _ HA1.out)
  have HR2 : Hid ((w1.setRow w.heap.size #[.slice p l.length c, .int .i64 r, .int .i64 k1]).heap[w.heap.size + 1]? = some (.cells #[.slice none 0 0, .int .i64 0, .int .i64 0] 26 (0, 0))) := (setRow_other w1 w.heap.size (w.heap.size + 1) _ (by omega)).trans HR1.out
  have HB2 := hid (below_setRow HB1.out (Nat.le_refl _) #[.slice p l.length c, .int .i64 r, .int .i64 k1])
  have HS2 : Hid ((w1.setRow w.heap.size #[.slice p l.length c, .int .i64 r, .int .i64 k1]).heap.size = w1.heap.size) := by simp [Hid]
  generalize w1.setRow w.heap.size #[.slice p l.length c, .int .i64 r, .int .i64 k1] = W0 at *
  have HI2 := hid (HI.out.below HB2.out)
  clear HA1 HR1 HB1
  go_loopw [6, 7] (fun v6 v7 W => ∃ (i m : Nat) (q : Option Addr) (d : Nat), v7 = .int .i64 i ∧ v6 = .slice q m d ∧ i ≤ l.length ∧ Hid (m = (delL n (l.take i)).length) ∧ Hid (OwnI W0.heap.size W (.slice q m d) (delL n (l.take i))) ∧ Hid (Below W0.heap.size W0 W)) (fun _ v7 _ => l.length - (intOf v7).toNat)
  case atStart => exact ⟨0, 0, none, 0, rfl, rfl, Nat.zero_le _, rfl, World.ownsRow_nil _ _ _ _, Below.refl _ _⟩
  case round =>
    obtain ⟨i, m, q, d, rfl, rfl, hi, HMl, HO, HW⟩ := hrel
    have hs0 : w.heap.size + 2 ≤ W0.heap.size := by have := HS2.out; omega
    have hws := HW.out.size
    have hrow := (HW.out.block w.heap.size (by omega)).trans HA2.out
    obtain ⟨⟨y0, y1, y2⟩, f0, f1, f2⟩ := rd_facts hrow
    obtain ⟨⟨z0, z1, z2⟩, g0, g1, g2⟩ := rd_facts ((HW.out.block (w.heap.size + 1) (by omega)).trans HR2.out)
    by_cases hlt : i < l.length
    · have hlz : (i : Int) < (l.length : Int) := by omega
      obtain ⟨g, o, rfl, hg, -, hc⟩ := HI2.out.cells i hlt
      have x0 : wr.cell? ⟨g, o + i * 2, none⟩ = some (txt l[i].1) := cell_turn (hc i hlt).1 (HW.out.block g hg)
      have x1 : wr.cell? ⟨g, o + i * 2 + 1, none⟩ = some (.int .i64 l[i].2) := cell_turn (hc i hlt).2 (HW.out.block g hg)
      have HDt := hid (del_take hlt n)
      obtain ⟨v', W', hrun, ho', hb', -⟩ := OwnI.push HO.out hws l[i] (by have := HMl.out; have := delL_len n (l.take i); simp at this; omega)
      obtain ⟨q', d', rfl, -⟩ := ho'.shape
      rw [List.length_append, ← HMl.out, List.length_singleton] at hrun ho'
      have HR := hid hrun
      have HO' := hid ho'
      have HW' := hid (HW.out.trans hb')
      have HL2 : Hid (m + 1 = (delL n (l.take i) ++ [l[i]]).length) := by rw [List.length_append, ← HMl.out]; rfl
      generalize l[i] = it at *
      obtain ⟨nm, y⟩ := it
      simp only at x0 x1 HDt HR HO' HL2
      clear hc hrun ho' hb' hrow f0 f1 f2 z0 z1 z2 g0 g1 g2
      by_cases e : nm = n
      · subst e
        rw [if_pos rfl] at HDt
        go_wp2_with fail
        exact ⟨⟨i + 1, m, q, d, by go_num, rfl, by omega, by rw [HDt.out]; exact HMl.out, by rw [HDt.out]; exact HO.out, HW.out⟩, by simp [intOf]; omega⟩
      · rw [if_neg e] at HDt
        have hne : (nm == n) = false := beq_eq_false_iff_ne.2 e
        clear e
        go_wp2_with (refine wpList_append_runs rfl _ _ 24 24 rfl _ _ _ _ rfl rfl HR.out (Hid.out ?_))
        refine hid ?_
        go_wp2_with fail
        exact ⟨⟨i + 1, m + 1, q', d', by go_num, rfl, by omega, by rw [HDt.out]; exact HL2.out, by rw [HDt.out]; exact HO'.out, HW'.out⟩, by simp [intOf]; omega⟩
    · have et : l.take i = l := List.take_of_length_le (by omega)
      rw [et] at HMl HO
      clear et
      have hml : m ≤ l.length := by rw [HMl.out]; exact delL_len n l
      have hmz : (m : Int) ≤ 800000 := by omega
      have hVm : ((m : Int) < (l.length : Int) ∧ V = true ∨ ¬ (m : Int) < (l.length : Int) ∧ V = false) := by
        rw [HVV.out]
        have := HLs.out
        rw [← HMl.out] at this
        cases hh : hasL n l
        · rw [hh] at this; exact .inr ⟨by have := mt this.1 (by simp); omega, rfl⟩
        · rw [hh] at this; exact .inl ⟨by have := this.2 rfl; omega, rfl⟩
      clear HVV HLs
      by_cases hS : k1 = 0 ∧ 4 < r ∧ 4 * m < r
      · have hd : (⟨LL, rr, kk⟩ : DM Int) = ⟨delL n l, r / 2, r⟩ := by
          rw [HDD.out]; unfold shrink; rw [if_pos (by simpa [← HMl.out] using hS)]
        obtain ⟨rfl, hr2, rfl⟩ : LL = delL n l ∧ rr = r / 2 ∧ r = kk := by
          injection hd with h1 h2 h3; exact ⟨h1, h2, h3.symm⟩
        clear hd HDD
        obtain ⟨rfl, h4, h5⟩ := hS
        have hq1 : (r : Int).tdiv 2 = (rr : Int) := by rw [Int.tdiv_eq_ediv_of_nonneg (by omega)]; omega
        have hq2 : (r : Int) / 2 = (rr : Int) := by omega
        have h4z : (4 : Int) < (r : Int) := by omega
        have h5z : 4 * (m : Int) < (r : Int) := by omega
        have hrz : (r : Int) ≤ 100000000 := by omega
        clear hr2
        rcases hVm with ⟨hv, rfl⟩ | ⟨hv, rfl⟩
        · clear hrow
          go_wp2_with fail
          refine bodyPost_ret (v := .tuple #[rdV (.slice q m d) rr r, .bool true]) ?_ rfl ?_
          · exact ret_rd2 rfl rfl rfl (heap_setCell_same _ (w.heap.size + 1) 2 _ _ _ (heap_setCell_same _ (w.heap.size + 1) 1 _ _ _ (heap_setCell_same _ (w.heap.size + 1) 0 _ _ _ ((heap_setCell_other _ _ _ _ (by simp)).trans ((heap_setCell_other _ _ _ _ (by simp)).trans ((heap_setCell_other _ _ _ _ (by simp)).trans ((HW.out.block (w.heap.size + 1) (by omega)).trans HR2.out)))))))
          · rw [HMl.out] at HO ⊢
            refine ⟨q, d, rfl, ?_, ?_⟩
            · exact (HO.out.it (P := fun j => W0.heap.size ≤ j) (fun _ h => h)).keep (P := fun j => W0.heap.size ≤ j) (keepN_setCell (keepN_setCell (keepN_setCell (keepN_setCell (keepN_setCell (keepN_setCell (Keep.refl _ wr) w.heap.size 0 _ (by omega)) w.heap.size 2 _ (by omega)) w.heap.size 1 _ (by omega)) (w.heap.size + 1) 0 _ (by omega)) (w.heap.size + 1) 1 _ (by omega)) (w.heap.size + 1) 2 _ (by omega)) (fun j hj => by show w.heap.size ≤ j; omega)
            · exact (Below.setCell (Below.setCell (Below.setCell (Below.setCell (Below.setCell (Below.setCell (HB2.out.trans (HW.out.mono HB2.out.size)) (p := ⟨w.heap.size, 0, none⟩) (Nat.le_refl _) _) (p := ⟨w.heap.size, 2, none⟩) (Nat.le_refl _) _) (p := ⟨w.heap.size, 1, none⟩) (Nat.le_refl _) _) (p := ⟨w.heap.size + 1, 0, none⟩) (by show w.heap.size ≤ w.heap.size + 1; omega) _) (p := ⟨w.heap.size + 1, 1, none⟩) (by show w.heap.size ≤ w.heap.size + 1; omega) _) (p := ⟨w.heap.size + 1, 2, none⟩) (by show w.heap.size ≤ w.heap.size + 1; omega) _)
        · clear hrow
          go_wp2_with fail
          refine bodyPost_ret (v := .tuple #[rdV (.slice q m d) rr r, .bool false]) ?_ rfl ?_
          · exact ret_rd2 rfl rfl rfl (heap_setCell_same _ (w.heap.size + 1) 2 _ _ _ (heap_setCell_same _ (w.heap.size + 1) 1 _ _ _ (heap_setCell_same _ (w.heap.size + 1) 0 _ _ _ ((heap_setCell_other _ _ _ _ (by simp)).trans ((heap_setCell_other _ _ _ _ (by simp)).trans ((heap_setCell_other _ _ _ _ (by simp)).trans ((HW.out.block (w.heap.size + 1) (by omega)).trans HR2.out)))))))
          · rw [HMl.out] at HO ⊢
            refine ⟨q, d, rfl, ?_, ?_⟩
            · exact (HO.out.it (P := fun j => W0.heap.size ≤ j) (fun _ h => h)).keep (P := fun j => W0.heap.size ≤ j) (keepN_setCell (keepN_setCell (keepN_setCell (keepN_setCell (keepN_setCell (keepN_setCell (Keep.refl _ wr) w.heap.size 0 _ (by omega)) w.heap.size 2 _ (by omega)) w.heap.size 1 _ (by omega)) (w.heap.size + 1) 0 _ (by omega)) (w.heap.size + 1) 1 _ (by omega)) (w.heap.size + 1) 2 _ (by omega)) (fun j hj => by show w.heap.size ≤ j; omega)
            · exact (Below.setCell (Below.setCell (Below.setCell (Below.setCell (Below.setCell (Below.setCell (HB2.out.trans (HW.out.mono HB2.out.size)) (p := ⟨w.heap.size, 0, none⟩) (Nat.le_refl _) _) (p := ⟨w.heap.size, 2, none⟩) (Nat.le_refl _) _) (p := ⟨w.heap.size, 1, none⟩) (Nat.le_refl _) _) (p := ⟨w.heap.size + 1, 0, none⟩) (by show w.heap.size ≤ w.heap.size + 1; omega) _) (p := ⟨w.heap.size + 1, 1, none⟩) (by show w.heap.size ≤ w.heap.size + 1; omega) _) (p := ⟨w.heap.size + 1, 2, none⟩) (by show w.heap.size ≤ w.heap.size + 1; omega) _)
      · have hd : (⟨LL, rr, kk⟩ : DM Int) = ⟨delL n l, r, k1⟩ := by
          rw [HDD.out]; unfold shrink; rw [if_neg (by simpa [← HMl.out] using hS)]
        obtain ⟨rfl, rfl, rfl⟩ : LL = delL n l ∧ r = rr ∧ k1 = kk := by
          injection hd with h1 h2 h3; exact ⟨h1, h2.symm, h3.symm⟩
        clear hd HDD
        have hrz : (r : Int) ≤ 100000000 := by omega
        rcases (show ((k1 : Int) ≠ 0) ∨ (k1 = 0 ∧ ¬ (4 : Int) < (r : Int)) ∨ (k1 = 0 ∧ (4 : Int) < (r : Int) ∧ ¬ 4 * (m : Int) < (r : Int)) by omega) with hk0 | ⟨rfl, h4z⟩ | ⟨rfl, h4z, h5z⟩
        · have hk0e : ((k1 : Int) == 0) = false := beq_eq_false_iff_ne.2 hk0
          clear hk0
          rcases hVm with ⟨hv, rfl⟩ | ⟨hv, rfl⟩
          · clear hrow
            go_wp2_with fail
            refine bodyPost_ret (v := .tuple #[rdV (.slice q m d) r k1, .bool true]) ?_ rfl ?_
            · exact ret_rd2 rfl rfl rfl (heap_setCell_same _ (w.heap.size + 1) 2 _ _ _ (heap_setCell_same _ (w.heap.size + 1) 1 _ _ _ (heap_setCell_same _ (w.heap.size + 1) 0 _ _ _ ((heap_setCell_other _ _ _ _ (by simp)).trans ((HW.out.block (w.heap.size + 1) (by omega)).trans HR2.out)))))
            · rw [HMl.out] at HO ⊢
              refine ⟨q, d, rfl, ?_, ?_⟩
              · exact (HO.out.it (P := fun j => W0.heap.size ≤ j) (fun _ h => h)).keep (P := fun j => W0.heap.size ≤ j) (keepN_setCell (keepN_setCell (keepN_setCell (keepN_setCell (Keep.refl _ wr) w.heap.size 0 _ (by omega)) (w.heap.size + 1) 0 _ (by omega)) (w.heap.size + 1) 1 _ (by omega)) (w.heap.size + 1) 2 _ (by omega)) (fun j hj => by show w.heap.size ≤ j; omega)
              · exact (Below.setCell (Below.setCell (Below.setCell (Below.setCell (HB2.out.trans (HW.out.mono HB2.out.size)) (p := ⟨w.heap.size, 0, none⟩) (Nat.le_refl _) _) (p := ⟨w.heap.size + 1, 0, none⟩) (by show w.heap.size ≤ w.heap.size + 1; omega) _) (p := ⟨w.heap.size + 1, 1, none⟩) (by show w.heap.size ≤ w.heap.size + 1; omega) _) (p := ⟨w.heap.size + 1, 2, none⟩) (by show w.heap.size ≤ w.heap.size + 1; omega) _)
          · clear hrow
            go_wp2_with fail
            refine bodyPost_ret (v := .tuple #[rdV (.slice q m d) r k1, .bool false]) ?_ rfl ?_
            · exact ret_rd2 rfl rfl rfl (heap_setCell_same _ (w.heap.size + 1) 2 _ _ _ (heap_setCell_same _ (w.heap.size + 1) 1 _ _ _ (heap_setCell_same _ (w.heap.size + 1) 0 _ _ _ ((heap_setCell_other _ _ _ _ (by simp)).trans ((HW.out.block (w.heap.size + 1) (by omega)).trans HR2.out)))))
            · rw [HMl.out] at HO ⊢
              refine ⟨q, d, rfl, ?_, ?_⟩
              · exact (HO.out.it (P := fun j => W0.heap.size ≤ j) (fun _ h => h)).keep (P := fun j => W0.heap.size ≤ j) (keepN_setCell (keepN_setCell (keepN_setCell (keepN_setCell (Keep.refl _ wr) w.heap.size 0 _ (by omega)) (w.heap.size + 1) 0 _ (by omega)) (w.heap.size + 1) 1 _ (by omega)) (w.heap.size + 1) 2 _ (by omega)) (fun j hj => by show w.heap.size ≤ j; omega)
              · exact (Below.setCell (Below.setCell (Below.setCell (Below.setCell (HB2.out.trans (HW.out.mono HB2.out.size)) (p := ⟨w.heap.size, 0, none⟩) (Nat.le_refl _) _) (p := ⟨w.heap.size + 1, 0, none⟩) (by show w.heap.size ≤ w.heap.size + 1; omega) _) (p := ⟨w.heap.size + 1, 1, none⟩) (by show w.heap.size ≤ w.heap.size + 1; omega) _) (p := ⟨w.heap.size + 1, 2, none⟩) (by show w.heap.size ≤ w.heap.size + 1; omega) _)
        · rcases hVm with ⟨hv, rfl⟩ | ⟨hv, rfl⟩
          · clear hrow
            go_wp2_with fail
            refine bodyPost_ret (v := .tuple #[rdV (.slice q m d) r 0, .bool true]) ?_ rfl ?_
            · exact ret_rd2 rfl rfl rfl (heap_setCell_same _ (w.heap.size + 1) 2 _ _ _ (heap_setCell_same _ (w.heap.size + 1) 1 _ _ _ (heap_setCell_same _ (w.heap.size + 1) 0 _ _ _ ((heap_setCell_other _ _ _ _ (by simp)).trans ((HW.out.block (w.heap.size + 1) (by omega)).trans HR2.out)))))
            · rw [HMl.out] at HO ⊢
              refine ⟨q, d, rfl, ?_, ?_⟩
              · exact (HO.out.it (P := fun j => W0.heap.size ≤ j) (fun _ h => h)).keep (P := fun j => W0.heap.size ≤ j) (keepN_setCell (keepN_setCell (keepN_setCell (keepN_setCell (Keep.refl _ wr) w.heap.size 0 _ (by omega)) (w.heap.size + 1) 0 _ (by omega)) (w.heap.size + 1) 1 _ (by omega)) (w.heap.size + 1) 2 _ (by omega)) (fun j hj => by show w.heap.size ≤ j; omega)
              · exact (Below.setCell (Below.setCell (Below.setCell (Below.setCell (HB2.out.trans (HW.out.mono HB2.out.size)) (p := ⟨w.heap.size, 0, none⟩) (Nat.le_refl _) _) (p := ⟨w.heap.size + 1, 0, none⟩) (by show w.heap.size ≤ w.heap.size + 1; omega) _) (p := ⟨w.heap.size + 1, 1, none⟩) (by show w.heap.size ≤ w.heap.size + 1; omega) _) (p := ⟨w.heap.size + 1, 2, none⟩) (by show w.heap.size ≤ w.heap.size + 1; omega) _)
          · clear hrow
            go_wp2_with fail
            refine bodyPost_ret (v := .tuple #[rdV (.slice q m d) r 0, .bool false]) ?_ rfl ?_
            · exact ret_rd2 rfl rfl rfl (heap_setCell_same _ (w.heap.size + 1) 2 _ _ _ (heap_setCell_same _ (w.heap.size + 1) 1 _ _ _ (heap_setCell_same _ (w.heap.size + 1) 0 _ _ _ ((heap_setCell_other _ _ _ _ (by simp)).trans ((HW.out.block (w.heap.size + 1) (by omega)).trans HR2.out)))))
            · rw [HMl.out] at HO ⊢
              refine ⟨q, d, rfl, ?_, ?_⟩
              · exact (HO.out.it (P := fun j => W0.heap.size ≤ j) (fun _ h => h)).keep (P := fun j => W0.heap.size ≤ j) (keepN_setCell (keepN_setCell (keepN_setCell (keepN_setCell (Keep.refl _ wr) w.heap.size 0 _ (by omega)) (w.heap.size + 1) 0 _ (by omega)) (w.heap.size + 1) 1 _ (by omega)) (w.heap.size + 1) 2 _ (by omega)) (fun j hj => by show w.heap.size ≤ j; omega)
              · exact (Below.setCell (Below.setCell (Below.setCell (Below.setCell (HB2.out.trans (HW.out.mono HB2.out.size)) (p := ⟨w.heap.size, 0, none⟩) (Nat.le_refl _) _) (p := ⟨w.heap.size + 1, 0, none⟩) (by show w.heap.size ≤ w.heap.size + 1; omega) _) (p := ⟨w.heap.size + 1, 1, none⟩) (by show w.heap.size ≤ w.heap.size + 1; omega) _) (p := ⟨w.heap.size + 1, 2, none⟩) (by show w.heap.size ≤ w.heap.size + 1; omega) _)
        · rcases hVm with ⟨hv, rfl⟩ | ⟨hv, rfl⟩
          · clear hrow
            go_wp2_with fail
            refine bodyPost_ret (v := .tuple #[rdV (.slice q m d) r 0, .bool true]) ?_ rfl ?_
            · exact ret_rd2 rfl rfl rfl (heap_setCell_same _ (w.heap.size + 1) 2 _ _ _ (heap_setCell_same _ (w.heap.size + 1) 1 _ _ _ (heap_setCell_same _ (w.heap.size + 1) 0 _ _ _ ((heap_setCell_other _ _ _ _ (by simp)).trans ((HW.out.block (w.heap.size + 1) (by omega)).trans HR2.out)))))
            · rw [HMl.out] at HO ⊢
              refine ⟨q, d, rfl, ?_, ?_⟩
              · exact (HO.out.it (P := fun j => W0.heap.size ≤ j) (fun _ h => h)).keep (P := fun j => W0.heap.size ≤ j) (keepN_setCell (keepN_setCell (keepN_setCell (keepN_setCell (Keep.refl _ wr) w.heap.size 0 _ (by omega)) (w.heap.size + 1) 0 _ (by omega)) (w.heap.size + 1) 1 _ (by omega)) (w.heap.size + 1) 2 _ (by omega)) (fun j hj => by show w.heap.size ≤ j; omega)
              · exact (Below.setCell (Below.setCell (Below.setCell (Below.setCell (HB2.out.trans (HW.out.mono HB2.out.size)) (p := ⟨w.heap.size, 0, none⟩) (Nat.le_refl _) _) (p := ⟨w.heap.size + 1, 0, none⟩) (by show w.heap.size ≤ w.heap.size + 1; omega) _) (p := ⟨w.heap.size + 1, 1, none⟩) (by show w.heap.size ≤ w.heap.size + 1; omega) _) (p := ⟨w.heap.size + 1, 2, none⟩) (by show w.heap.size ≤ w.heap.size + 1; omega) _)
          · clear hrow
            go_wp2_with fail
            refine bodyPost_ret (v := .tuple #[rdV (.slice q m d) r 0, .bool false]) ?_ rfl ?_
            · exact ret_rd2 rfl rfl rfl (heap_setCell_same _ (w.heap.size + 1) 2 _ _ _ (heap_setCell_same _ (w.heap.size + 1) 1 _ _ _ (heap_setCell_same _ (w.heap.size + 1) 0 _ _ _ ((heap_setCell_other _ _ _ _ (by simp)).trans ((HW.out.block (w.heap.size + 1) (by omega)).trans HR2.out)))))
            · rw [HMl.out] at HO ⊢
              refine ⟨q, d, rfl, ?_, ?_⟩
              · exact (HO.out.it (P := fun j => W0.heap.size ≤ j) (fun _ h => h)).keep (P := fun j => W0.heap.size ≤ j) (keepN_setCell (keepN_setCell (keepN_setCell (keepN_setCell (Keep.refl _ wr) w.heap.size 0 _ (by omega)) (w.heap.size + 1) 0 _ (by omega)) (w.heap.size + 1) 1 _ (by omega)) (w.heap.size + 1) 2 _ (by omega)) (fun j hj => by show w.heap.size ≤ j; omega)
              · exact (Below.setCell (Below.setCell (Below.setCell (Below.setCell (HB2.out.trans (HW.out.mono HB2.out.size)) (p := ⟨w.heap.size, 0, none⟩) (Nat.le_refl _) _) (p := ⟨w.heap.size + 1, 0, none⟩) (by show w.heap.size ≤ w.heap.size + 1; omega) _) (p := ⟨w.heap.size + 1, 1, none⟩) (by show w.heap.size ≤ w.heap.size + 1; omega) _) (p := ⟨w.heap.size + 1, 2, none⟩) (by show w.heap.size ≤ w.heap.size + 1; omega) _)

end Go.Proofs.YtphegggekcjenaaDoor
