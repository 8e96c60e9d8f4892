/- The document's dict: Put. -/
import Derived.Test.YtphegggekcjenaaDoorRefDel
import Derived.Sort.Walk0
import Derived.Laws.Cover1
namespace Go.Proofs.YtphegggekcjenaaDoor
open Go.RowKit

theorem has_take {l : Its Int} {i : Nat} (h : i < l.length) (n : Nm) : hasL n (l.take (i + 1)) = (hasL n (l.take i) || (l[i].1 == n)) := by
  unfold hasL
  rw [List.take_succ_eq_append_getElem h, List.any_append]
  simp only [List.any_cons, List.any_nil, Bool.or_false]
theorem put_drop {l : Its Int} {i : Nat} (h : i < l.length) (n : Nm) (v : Int) (b : Bool) : put1 n v b (l.drop i) = if l[i].1 = n then put1 n v b (l.drop (i + 1)) else if b = false ∧ n < l[i].1 then (n, v) :: l[i] :: put1 n v true (l.drop (i + 1)) else l[i] :: put1 n v b (l.drop (i + 1)) := by
  rw [List.drop_eq_getElem_cons h, put1]
set_option maxHeartbeats 4000000 in
set_option maxRecDepth 100000 in
/-- ref Put -/
theorem rput_any (P : Nat → Prop) (v : Value) (l : Its Int) (r k : Nat) (n : Nm) (y : Int) (w : World) (h : It P w v l) (hl : l.length ≤ 400000) (hr : r ≤ 100000000) (hk : k ≤ 100000000) :
    Calls Tryd.prog 31 #[rdV v r k, txt n, .int .i64 y] w fun e w' => ∃ q d, e = .returned (.tuple #[rdV (.slice q (putD ⟨l, r, k⟩ n y).L.length d) (putD ⟨l, r, k⟩ n y).rooms (putD ⟨l, r, k⟩ n y).left, .bool (hasL n l)]) ∧ Hid (It (fun j => w.heap.size ≤ j) w' (.slice q (putD ⟨l, r, k⟩ n y).L.length d) (putD ⟨l, r, k⟩ n y).L ∧ Below w.heap.size w w') := by
  obtain ⟨p, c, rfl, -⟩ := h.shape
  obtain ⟨k1, hk1⟩ : ∃ k1, k1 = k - 1 := ⟨_, rfl⟩
  have hk1b : k1 ≤ 100000000 := by omega
  have hD : putD ⟨l, r, k⟩ n y = grow ⟨put1 n y false l, r, k1⟩ := by rw [hk1]; rfl
  rw [hD]
  obtain ⟨⟨LL, rr, kk⟩, hDD⟩ : ∃ DD : DM Int, DD = grow ⟨put1 n y false l, r, k1⟩ := ⟨_, rfl⟩
  rw [← hDD]
  simp only
  obtain ⟨V, hV⟩ : ∃ V, V = hasL n l := ⟨_, rfl⟩
  rw [← hV]
  have HVV := hid hV
  clear hV
  have HST := hid fun W => rstep_any p l.length c r k W (by omega)
  rw [← hk1] at HST
  have H2 := hid (alloc2_old w (.cells #[.slice p l.length c, .int .i64 r, .int .i64 k] 26) (.cells #[.slice none 0 0, .int .i64 0, .int .i64 0] 26))
  have H3 := hid (alloc2_new w (.cells #[.slice p l.length c, .int .i64 r, .int .i64 k] 26) (.cells #[.slice none 0 0, .int .i64 0, .int .i64 0] 26))
  have H4 := hid (alloc2_below w (.cells #[.slice p l.length c, .int .i64 r, .int .i64 k] 26) (.cells #[.slice none 0 0, .int .i64 0, .int .i64 0] 26))
  have HI := hid h
  have HDD := hid hDD
  have HPL := hid (put1_len n y false l)
  clear h hD hDD hk1
  go_enter Tryd.func31, Tryd.ntmps31
  go_wp2_with fail
  refine (HST.out _).mono ?_; rintro e w1 ⟨rfl, hb1⟩
  have hs1 := hb1.out.size
  rw [show ((w.alloc (.cells #[.slice p l.length c, .int .i64 r, .int .i64 k] 26)).alloc (.cells #[.slice none 0 0, .int .i64 0, .int .i64 0] 26)).heap.size = w.heap.size + 2 by simp] at hs1
  have HA1 := hid ((hb1.out.block w.heap.size (by simp; omega)).trans H2.out)
  have HR1 := hid ((hb1.out.block (w.heap.size + 1) (by simp)).trans H3.out)
  have HB1 := hid (H4.out.trans (hb1.out.mono H4.out.size))
  clear hb1
  go_wp2_with (refine wpList_store_row rfl 26 _ _ rfl w.heap.size #[.slice p l.length c, .int .i64 r, .int .i64 k1] rfl rfl 26 _ HA1.out (infoRD _ _ _) rfl (oneRD _ _ _ _ _) ?_)
  have HA2 := hid (setRow_heap w1 w.heap.size _ #[.slice p l.length c, .int .i64 r, .int .i64 k1] _ _ HA1.out)
  have HR2 : Hid ((w1.setRow w.heap.size #[.slice p l.length c, .int .i64 r, .int .i64 k1]).heap[w.heap.size + 1]? = some (.cells #[.slice none 0 0, .int .i64 0, .int .i64 0] 26 (0, 0))) := (setRow_other w1 w.heap.size (w.heap.size + 1) _ (by omega)).trans HR1.out
  have HB2 := hid (below_setRow HB1.out (Nat.le_refl _) #[.slice p l.length c, .int .i64 r, .int .i64 k1])
  have HS2 : Hid ((w1.setRow w.heap.size #[.slice p l.length c, .int .i64 r, .int .i64 k1]).heap.size = w1.heap.size) := by simp [Hid]
  generalize w1.setRow w.heap.size #[.slice p l.length c, .int .i64 r, .int .i64 k1] = W0 at *
  have HI2 := hid (HI.out.below HB2.out)
  clear HA1 HR1 HB1
  go_loopw [8, 9, 10, 11, 12] (fun v8 v9 v10 v11 _ W => ∃ (i m : Nat) (q : Option Addr) (d : Nat) (was done : Bool) (acc : Its Int), v11 = .int .i64 i ∧ v8 = .slice q m d ∧ v9 = .bool was ∧ v10 = .bool done ∧ i ≤ l.length ∧ m ≤ 2 * i ∧ Hid (m = acc.length) ∧ Hid (was = hasL n (l.take i)) ∧ Hid (acc ++ put1 n y done (l.drop i) = put1 n y false l) ∧ Hid (OwnI W0.heap.size W (.slice q m d) acc) ∧ Hid (Below W0.heap.size W0 W)) (fun _ _ _ v11 _ _ => l.length - (intOf v11).toNat)
  case atStart => exact ⟨0, 0, none, 0, false, false, [], rfl, rfl, rfl, rfl, Nat.zero_le _, Nat.le_refl _, rfl, rfl, rfl, World.ownsRow_nil _ _ _ _, Below.refl _ _⟩
  case round =>
    obtain ⟨i, m, q, d, was, done, acc, rfl, rfl, rfl, rfl, hi, hm, HMl, HWas, HAcc, HO, HW⟩ := hrel
    have hs0 : w.heap.size + 2 ≤ W0.heap.size := by have := HS2.out; omega
    have hws := HW.out.size
    have hrow := (HW.out.block w.heap.size (by omega)).trans HA2.out
    obtain ⟨⟨y0, y1, y2⟩, f0, f1, f2⟩ := rd_facts hrow
    by_cases hlt : i < l.length
    · have hlz : (i : Int) < (l.length : Int) := by omega
      obtain ⟨g, o, rfl, hg, -, hc⟩ := HI2.out.cells i hlt
      have x0 : wr.cell? ⟨g, o + i * 2, none⟩ = some (txt l[i].1) := cell_turn (hc i hlt).1 (HW.out.block g hg)
      have x1 : wr.cell? ⟨g, o + i * 2 + 1, none⟩ = some (.int .i64 l[i].2) := cell_turn (hc i hlt).2 (HW.out.block g hg)
      have HDr := hid (put_drop hlt n y done)
      have HHt := hid (has_take hlt n)
      have HBx := hid (below_alloc wr (.cells #[txt l[i].1, .int .i64 l[i].2] 64))
      generalize l[i] = it at *
      obtain ⟨nm, yy⟩ := it
      simp only at x0 x1 HDr HHt HBx
      clear hc hrow f0 f1 f2
      by_cases e : nm = n
      · subst e
        rw [if_pos rfl] at HDr
        have HHas : Hid (true = hasL nm (l.take (i + 1))) := by rw [Hid, HHt.out]; simp
        go_wp2_with fail
        exact ⟨⟨i + 1, m, q, d, true, done, acc, by go_num, rfl, rfl, rfl, by omega, by omega, HMl.out, HHas.out, by rw [← HDr.out]; exact HAcc.out, owns_below HO.out HBx.out, HW.out.trans (HBx.out.mono hws)⟩, by simp [intOf]; omega⟩
      · rw [if_neg e] at HDr
        have hne : (nm == n) = false := beq_eq_false_iff_ne.2 e
        have HWas2 : Hid (was = hasL n (l.take (i + 1))) := by rw [Hid, HHt.out, hne, Bool.or_false]; exact HWas.out
        have hxs : (wr.alloc (.cells #[txt nm, .int .i64 yy] 64)).heap.size = wr.heap.size + 1 := by simp
        have hsx : W0.heap.size ≤ (wr.alloc (.cells #[txt nm, .int .i64 yy] 64)).heap.size := by omega
        by_cases hput : done = false ∧ n < nm
        · obtain ⟨rfl, hlt2⟩ := hput
          rw [if_pos ⟨rfl, hlt2⟩] at HDr
          have hbl : Op.bytesLess nm n = false := by rw [bytesLess_eq]; exact decide_eq_false (nm_lt_asymm hlt2)
          obtain ⟨v2, W2, hrun2, ho2, hb2, hk2⟩ := OwnI.push (B := W0.heap.size) (owns_below HO.out HBx.out) hsx (n, y) (by have := HMl.out; omega)
          obtain ⟨q2, d2, rfl, -⟩ := ho2.shape
          have hx2 := (hk2 wr.heap.size (by omega) (fun he => by have := (World.ownsRow.lt HO.out wr.heap.size he.symm).2; omega)).trans (heap_alloc_new wr _)
          have c20 : W2.cell? ⟨wr.heap.size, 0, none⟩ = some (txt nm) := cell_of_row W2 _ 0 _ _ _ hx2
          have c21 : W2.cell? ⟨wr.heap.size, 1, none⟩ = some (.int .i64 yy) := cell_of_row W2 _ 1 _ _ _ hx2
          obtain ⟨v3, W3, hrun3, ho3, hb3, -⟩ := OwnI.push (B := W0.heap.size) ho2 (Nat.le_trans hsx hb2.size) (nm, yy) (by have := HMl.out; simp; omega)
          obtain ⟨q3, d3, rfl, -⟩ := ho3.shape
          have hl2 : (acc ++ [(n, y)]).length = m + 1 := by rw [List.length_append, ← HMl.out]; rfl
          have hl3 : (acc ++ [(n, y)] ++ [(nm, yy)]).length = m + 1 + 1 := by rw [List.length_append, hl2]; rfl
          rw [hl2] at hrun2 hrun3
          rw [hxs] at hrun2
          rw [hl3] at hrun3 ho3
          have HL3 := hid hl3
          have HR2' := hid hrun2
          have HR3' := hid hrun3
          have HO3 := hid ho3
          have HW3 := hid (((HW.out.trans (HBx.out.mono hws)).trans hb2).trans hb3)
          have HAcc3 : Hid (acc ++ [(n, y)] ++ [(nm, yy)] ++ put1 n y true (l.drop (i + 1)) = put1 n y false l) := by
            have := HAcc.out
            rw [HDr.out] at this
            rw [Hid, ← this]
            simp
          clear hrun2 hrun3 ho2 ho3 hb2 hb3 hk2 hl2 hl3 hx2 hlt2 e hxs hsx
          go_wp2_with (refine wpList_append_runs rfl _ _ 24 24 rfl _ _ _ _ rfl rfl HR2'.out (Hid.out ?_))
          refine hid ?_
          go_wp2_with (refine wpList_append_runs rfl _ _ 24 24 rfl _ _ _ _ rfl rfl HR3'.out (Hid.out ?_))
          refine hid ?_
          go_wp2_with fail
          exact ⟨⟨i + 1, m + 1 + 1, q3, d3, was, true, _, by go_num, rfl, rfl, rfl, by omega, by omega, HL3.out.symm, HWas2.out, HAcc3.out, HO3.out, HW3.out⟩, by simp [intOf]; omega⟩
        · rw [if_neg hput] at HDr
          obtain ⟨v3, W3, hrun3, ho3, hb3, -⟩ := OwnI.push (B := W0.heap.size) (owns_below HO.out HBx.out) hsx (nm, yy) (by have := HMl.out; omega)
          obtain ⟨q3, d3, rfl, -⟩ := ho3.shape
          have hl3 : (acc ++ [(nm, yy)]).length = m + 1 := by rw [List.length_append, ← HMl.out]; rfl
          rw [hl3] at hrun3 ho3
          rw [hxs] at hrun3
          have HL3 := hid hl3
          have HR3' := hid hrun3
          have HO3 := hid ho3
          have HW3 := hid ((HW.out.trans (HBx.out.mono hws)).trans hb3)
          have HAcc3 : Hid (acc ++ [(nm, yy)] ++ put1 n y done (l.drop (i + 1)) = put1 n y false l) := by
            have := HAcc.out
            rw [HDr.out] at this
            rw [Hid, ← this]
            simp
          clear hrun3 ho3 hb3 hl3 hxs hsx
          cases done with
          | true =>
            clear hput e
            go_wp2_with (refine wpList_append_runs rfl _ _ 24 24 rfl _ _ _ _ rfl rfl HR3'.out (Hid.out ?_))
            refine hid ?_
            go_wp2_with fail
            exact ⟨⟨i + 1, m + 1, q3, d3, was, true, _, by go_num, rfl, rfl, rfl, by omega, by omega, HL3.out.symm, HWas2.out, HAcc3.out, HO3.out, HW3.out⟩, by simp [intOf]; omega⟩
          | false =>
            have hbl : Op.bytesLess nm n = true := by
              rw [bytesLess_eq]
              refine decide_eq_true ?_
              rcases nm_lt_or nm n with g | g | g
              · exact g
              · exact absurd g e
              · exact absurd ⟨rfl, g⟩ hput
            clear hput e
            go_wp2_with (refine wpList_append_runs rfl _ _ 24 24 rfl _ _ _ _ rfl rfl HR3'.out (Hid.out ?_))
            refine hid ?_
            go_wp2_with fail
            exact ⟨⟨i + 1, m + 1, q3, d3, was, false, _, by go_num, rfl, rfl, rfl, by omega, by omega, HL3.out.symm, HWas2.out, HAcc3.out, HO3.out, HW3.out⟩, by simp [intOf]; omega⟩
    · have et : l.take i = l := List.take_of_length_le (by omega)
      have ed : l.drop i = [] := List.drop_eq_nil_of_le (by omega)
      rw [et] at HWas
      rw [ed] at HAcc
      obtain rfl : V = was := by rw [HVV.out, HWas.out]
      clear et ed hrow HVV HWas
      obtain ⟨⟨z0, z1, z2⟩, g0, g1, g2⟩ := rd_facts ((HW.out.block (w.heap.size + 1) (by omega)).trans HR2.out)
      cases done with
      | true =>
        have hacc : acc = put1 n y false l := by simpa [put1] using HAcc.out
        subst hacc
        have HLm : Hid ((put1 n y false l).length = m) := HMl.out.symm
        have hmz : (m : Int) ≤ 800000 := by omega
        by_cases hS : k1 = 0 ∧ r < m
        · have hd : (⟨LL, rr, kk⟩ : DM Int) = ⟨put1 n y false l, 2 * r, r⟩ := by
            rw [HDD.out]; unfold grow; rw [if_pos (by have := HLm.out; simp only; omega)]
          obtain ⟨rfl, hr2, rfl⟩ : LL = put1 n y false l ∧ rr = 2 * r ∧ r = kk := by
            injection hd with h1 h2 h3; exact ⟨h1, h2, h3.symm⟩
          clear hd HDD
          obtain ⟨rfl, h5⟩ := hS
          have hq1 : 2 * (r : Int) = (rr : Int) := by omega
          have h5z : (r : Int) < ((m : Nat) : Int) := by omega
          have hrz : (r : Int) ≤ 100000000 := by omega
          clear hr2
          go_wp2_with fail
          refine bodyPost_ret (v := .tuple #[rdV (.slice q m d) rr r, .bool V]) ?_ rfl ?_
          · exact ret_rd2 rfl rfl rfl (heap_setCell_same _ (w.heap.size + 1) 2 _ _ _ (heap_setCell_same _ (w.heap.size + 1) 1 _ _ _ (heap_setCell_same _ (w.heap.size + 1) 0 _ _ _ ((heap_setCell_other _ _ _ _ (by simp)).trans ((heap_setCell_other _ _ _ _ (by simp)).trans ((heap_setCell_other _ _ _ _ (by simp)).trans ((HW.out.block (w.heap.size + 1) (by omega)).trans HR2.out)))))))
          · refine ⟨q, d, ?_, ?_, ?_⟩
            · rw [HLm.out]
            · rw [HLm.out]
              exact (HO.out.it (P := fun j => W0.heap.size ≤ j) (fun _ h => h)).keep (P := fun j => W0.heap.size ≤ j) (keepN_setCell (keepN_setCell (keepN_setCell (keepN_setCell (keepN_setCell (keepN_setCell (Keep.refl _ wr) w.heap.size 0 _ (by omega)) w.heap.size 2 _ (by omega)) w.heap.size 1 _ (by omega)) (w.heap.size + 1) 0 _ (by omega)) (w.heap.size + 1) 1 _ (by omega)) (w.heap.size + 1) 2 _ (by omega)) (fun j hj => by show w.heap.size ≤ j; omega)
            · exact (Below.setCell (Below.setCell (Below.setCell (Below.setCell (Below.setCell (Below.setCell (HB2.out.trans (HW.out.mono HB2.out.size)) (p := ⟨w.heap.size, 0, none⟩) (Nat.le_refl _) _) (p := ⟨w.heap.size, 2, none⟩) (Nat.le_refl _) _) (p := ⟨w.heap.size, 1, none⟩) (Nat.le_refl _) _) (p := ⟨w.heap.size + 1, 0, none⟩) (by show w.heap.size ≤ w.heap.size + 1; omega) _) (p := ⟨w.heap.size + 1, 1, none⟩) (by show w.heap.size ≤ w.heap.size + 1; omega) _) (p := ⟨w.heap.size + 1, 2, none⟩) (by show w.heap.size ≤ w.heap.size + 1; omega) _)
        · have hd : (⟨LL, rr, kk⟩ : DM Int) = ⟨put1 n y false l, r, k1⟩ := by
            rw [HDD.out]; unfold grow; rw [if_neg (by have := HLm.out; simp only; omega)]
          obtain ⟨rfl, rfl, rfl⟩ : LL = put1 n y false l ∧ r = rr ∧ k1 = kk := by
            injection hd with h1 h2 h3; exact ⟨h1, h2.symm, h3.symm⟩
          clear hd HDD
          have hrz : (r : Int) ≤ 100000000 := by omega
          rcases (show ((k1 : Int) ≠ 0) ∨ (k1 = 0 ∧ ¬ (r : Int) < ((m : Nat) : Int)) by omega) with hk0 | ⟨rfl, h5z⟩
          · have hk0e : ((k1 : Int) == 0) = false := beq_eq_false_iff_ne.2 hk0
            clear hk0
            go_wp2_with fail
            refine bodyPost_ret (v := .tuple #[rdV (.slice q m d) r k1, .bool V]) ?_ rfl ?_
            · exact ret_rd2 rfl rfl rfl (heap_setCell_same _ (w.heap.size + 1) 2 _ _ _ (heap_setCell_same _ (w.heap.size + 1) 1 _ _ _ (heap_setCell_same _ (w.heap.size + 1) 0 _ _ _ ((heap_setCell_other _ _ _ _ (by simp)).trans ((HW.out.block (w.heap.size + 1) (by omega)).trans HR2.out)))))
            · refine ⟨q, d, ?_, ?_, ?_⟩
              · rw [HLm.out]
              · rw [HLm.out]
                exact (HO.out.it (P := fun j => W0.heap.size ≤ j) (fun _ h => h)).keep (P := fun j => W0.heap.size ≤ j) (keepN_setCell (keepN_setCell (keepN_setCell (keepN_setCell (Keep.refl _ wr) w.heap.size 0 _ (by omega)) (w.heap.size + 1) 0 _ (by omega)) (w.heap.size + 1) 1 _ (by omega)) (w.heap.size + 1) 2 _ (by omega)) (fun j hj => by show w.heap.size ≤ j; omega)
              · exact (Below.setCell (Below.setCell (Below.setCell (Below.setCell (HB2.out.trans (HW.out.mono HB2.out.size)) (p := ⟨w.heap.size, 0, none⟩) (Nat.le_refl _) _) (p := ⟨w.heap.size + 1, 0, none⟩) (by show w.heap.size ≤ w.heap.size + 1; omega) _) (p := ⟨w.heap.size + 1, 1, none⟩) (by show w.heap.size ≤ w.heap.size + 1; omega) _) (p := ⟨w.heap.size + 1, 2, none⟩) (by show w.heap.size ≤ w.heap.size + 1; omega) _)
          · go_wp2_with fail
            refine bodyPost_ret (v := .tuple #[rdV (.slice q m d) r 0, .bool V]) ?_ rfl ?_
            · exact ret_rd2 rfl rfl rfl (heap_setCell_same _ (w.heap.size + 1) 2 _ _ _ (heap_setCell_same _ (w.heap.size + 1) 1 _ _ _ (heap_setCell_same _ (w.heap.size + 1) 0 _ _ _ ((heap_setCell_other _ _ _ _ (by simp)).trans ((HW.out.block (w.heap.size + 1) (by omega)).trans HR2.out)))))
            · refine ⟨q, d, ?_, ?_, ?_⟩
              · rw [HLm.out]
              · rw [HLm.out]
                exact (HO.out.it (P := fun j => W0.heap.size ≤ j) (fun _ h => h)).keep (P := fun j => W0.heap.size ≤ j) (keepN_setCell (keepN_setCell (keepN_setCell (keepN_setCell (Keep.refl _ wr) w.heap.size 0 _ (by omega)) (w.heap.size + 1) 0 _ (by omega)) (w.heap.size + 1) 1 _ (by omega)) (w.heap.size + 1) 2 _ (by omega)) (fun j hj => by show w.heap.size ≤ j; omega)
              · exact (Below.setCell (Below.setCell (Below.setCell (Below.setCell (HB2.out.trans (HW.out.mono HB2.out.size)) (p := ⟨w.heap.size, 0, none⟩) (Nat.le_refl _) _) (p := ⟨w.heap.size + 1, 0, none⟩) (by show w.heap.size ≤ w.heap.size + 1; omega) _) (p := ⟨w.heap.size + 1, 1, none⟩) (by show w.heap.size ≤ w.heap.size + 1; omega) _) (p := ⟨w.heap.size + 1, 2, none⟩) (by show w.heap.size ≤ w.heap.size + 1; omega) _)
      | false =>
        obtain ⟨v3, W3, hrun3, ho3, hb3, -⟩ := OwnI.push (B := W0.heap.size) HO.out hws (n, y) (by have := HMl.out; omega)
        obtain ⟨q3, d3, rfl, -⟩ := ho3.shape
        have hacc : acc ++ [(n, y)] = put1 n y false l := by simpa [put1] using HAcc.out
        have hl3 : (acc ++ [(n, y)]).length = m + 1 := by rw [List.length_append, ← HMl.out]; rfl
        rw [hl3] at hrun3 ho3
        rw [hacc] at hl3 ho3
        have HLm := hid hl3
        have HR3' := hid hrun3
        have HO3 := hid ho3
        have HW3 := hid (HW.out.trans hb3)
        have hws3 := HW3.out.size
        obtain ⟨⟨a0, a1, a2⟩, b0, b1, b2⟩ := rd_facts ((HW3.out.block w.heap.size (by omega)).trans HA2.out)
        obtain ⟨⟨c0, c1, c2⟩, d0, d1, d2⟩ := rd_facts ((HW3.out.block (w.heap.size + 1) (by omega)).trans HR2.out)
        have hmz : (m : Int) ≤ 800000 := by omega
        clear hrun3 ho3 hb3 hl3 hacc y1 y2 f0 f1 f2 z0 z1 z2 g0 g1 g2
        obtain ⟨m1, hm1⟩ : ∃ m1 : Nat, m1 = m + 1 := ⟨_, rfl⟩
        rw [← hm1] at HR3' HO3 HLm
        have hm1z : (m1 : Int) ≤ 800001 := by omega
        clear hm1
        go_wp2_with (refine wpList_append_runs rfl _ _ 24 24 rfl _ _ _ _ rfl rfl HR3'.out (Hid.out ?_))
        refine hid ?_
        by_cases hS : k1 = 0 ∧ r < m1
        · have hd : (⟨LL, rr, kk⟩ : DM Int) = ⟨put1 n y false l, 2 * r, r⟩ := by
            rw [HDD.out]; unfold grow; rw [if_pos (by have := HLm.out; simp only; omega)]
          obtain ⟨rfl, hr2, rfl⟩ : LL = put1 n y false l ∧ rr = 2 * r ∧ r = kk := by
            injection hd with h1 h2 h3; exact ⟨h1, h2, h3.symm⟩
          clear hd HDD
          obtain ⟨rfl, h5⟩ := hS
          have hq1 : 2 * (r : Int) = (rr : Int) := by omega
          have h5z : (r : Int) < ((m1 : Nat) : Int) := by omega
          have hrz : (r : Int) ≤ 100000000 := by omega
          clear hr2
          go_wp2_with fail
          refine bodyPost_ret (v := .tuple #[rdV (.slice q3 m1 d3) rr r, .bool V]) ?_ rfl ?_
          · exact ret_rd2 rfl rfl rfl (heap_setCell_same _ (w.heap.size + 1) 2 _ _ _ (heap_setCell_same _ (w.heap.size + 1) 1 _ _ _ (heap_setCell_same _ (w.heap.size + 1) 0 _ _ _ ((heap_setCell_other _ _ _ _ (by simp)).trans ((heap_setCell_other _ _ _ _ (by simp)).trans ((heap_setCell_other _ _ _ _ (by simp)).trans ((HW3.out.block (w.heap.size + 1) (by omega)).trans HR2.out)))))))
          · refine ⟨q3, d3, ?_, ?_, ?_⟩
            · rw [HLm.out]
            · rw [HLm.out]
              exact (HO3.out.it (P := fun j => W0.heap.size ≤ j) (fun _ h => h)).keep (P := fun j => W0.heap.size ≤ j) (keepN_setCell (keepN_setCell (keepN_setCell (keepN_setCell (keepN_setCell (keepN_setCell (Keep.refl _ W3) w.heap.size 0 _ (by omega)) w.heap.size 2 _ (by omega)) w.heap.size 1 _ (by omega)) (w.heap.size + 1) 0 _ (by omega)) (w.heap.size + 1) 1 _ (by omega)) (w.heap.size + 1) 2 _ (by omega)) (fun j hj => by show w.heap.size ≤ j; omega)
            · exact (Below.setCell (Below.setCell (Below.setCell (Below.setCell (Below.setCell (Below.setCell (HB2.out.trans (HW3.out.mono HB2.out.size)) (p := ⟨w.heap.size, 0, none⟩) (Nat.le_refl _) _) (p := ⟨w.heap.size, 2, none⟩) (Nat.le_refl _) _) (p := ⟨w.heap.size, 1, none⟩) (Nat.le_refl _) _) (p := ⟨w.heap.size + 1, 0, none⟩) (by show w.heap.size ≤ w.heap.size + 1; omega) _) (p := ⟨w.heap.size + 1, 1, none⟩) (by show w.heap.size ≤ w.heap.size + 1; omega) _) (p := ⟨w.heap.size + 1, 2, none⟩) (by show w.heap.size ≤ w.heap.size + 1; omega) _)
        · have hd : (⟨LL, rr, kk⟩ : DM Int) = ⟨put1 n y false l, r, k1⟩ := by
            rw [HDD.out]; unfold grow; rw [if_neg (by have := HLm.out; simp only; omega)]
          obtain ⟨rfl, rfl, rfl⟩ : LL = put1 n y false l ∧ r = rr ∧ k1 = kk := by
            injection hd with h1 h2 h3; exact ⟨h1, h2.symm, h3.symm⟩
          clear hd HDD
          have hrz : (r : Int) ≤ 100000000 := by omega
          rcases (show ((k1 : Int) ≠ 0) ∨ (k1 = 0 ∧ ¬ (r : Int) < ((m1 : Nat) : Int)) by omega) with hk0 | ⟨rfl, h5z⟩
          · have hk0e : ((k1 : Int) == 0) = false := beq_eq_false_iff_ne.2 hk0
            clear hk0
            go_wp2_with fail
            refine bodyPost_ret (v := .tuple #[rdV (.slice q3 m1 d3) r k1, .bool V]) ?_ rfl ?_
            · exact ret_rd2 rfl rfl rfl (heap_setCell_same _ (w.heap.size + 1) 2 _ _ _ (heap_setCell_same _ (w.heap.size + 1) 1 _ _ _ (heap_setCell_same _ (w.heap.size + 1) 0 _ _ _ ((heap_setCell_other _ _ _ _ (by simp)).trans ((HW3.out.block (w.heap.size + 1) (by omega)).trans HR2.out)))))
            · refine ⟨q3, d3, ?_, ?_, ?_⟩
              · rw [HLm.out]
              · rw [HLm.out]
                exact (HO3.out.it (P := fun j => W0.heap.size ≤ j) (fun _ h => h)).keep (P := fun j => W0.heap.size ≤ j) (keepN_setCell (keepN_setCell (keepN_setCell (keepN_setCell (Keep.refl _ W3) w.heap.size 0 _ (by omega)) (w.heap.size + 1) 0 _ (by omega)) (w.heap.size + 1) 1 _ (by omega)) (w.heap.size + 1) 2 _ (by omega)) (fun j hj => by show w.heap.size ≤ j; omega)
              · exact (Below.setCell (Below.setCell (Below.setCell (Below.setCell (HB2.out.trans (HW3.out.mono HB2.out.size)) (p := ⟨w.heap.size, 0, none⟩) (Nat.le_refl _) _) (p := ⟨w.heap.size + 1, 0, none⟩) (by show w.heap.size ≤ w.heap.size + 1; omega) _) (p := ⟨w.heap.size + 1, 1, none⟩) (by show w.heap.size ≤ w.heap.size + 1; omega) _) (p := ⟨w.heap.size + 1, 2, none⟩) (by show w.heap.size ≤ w.heap.size + 1; omega) _)
          · go_wp2_with fail
            refine bodyPost_ret (v := .tuple #[rdV (.slice q3 m1 d3) r 0, .bool V]) ?_ rfl ?_
            · exact ret_rd2 rfl rfl rfl (heap_setCell_same _ (w.heap.size + 1) 2 _ _ _ (heap_setCell_same _ (w.heap.size + 1) 1 _ _ _ (heap_setCell_same _ (w.heap.size + 1) 0 _ _ _ ((heap_setCell_other _ _ _ _ (by simp)).trans ((HW3.out.block (w.heap.size + 1) (by omega)).trans HR2.out)))))
            · refine ⟨q3, d3, ?_, ?_, ?_⟩
              · rw [HLm.out]
              · rw [HLm.out]
                exact (HO3.out.it (P := fun j => W0.heap.size ≤ j) (fun _ h => h)).keep (P := fun j => W0.heap.size ≤ j) (keepN_setCell (keepN_setCell (keepN_setCell (keepN_setCell (Keep.refl _ W3) w.heap.size 0 _ (by omega)) (w.heap.size + 1) 0 _ (by omega)) (w.heap.size + 1) 1 _ (by omega)) (w.heap.size + 1) 2 _ (by omega)) (fun j hj => by show w.heap.size ≤ j; omega)
              · exact (Below.setCell (Below.setCell (Below.setCell (Below.setCell (HB2.out.trans (HW3.out.mono HB2.out.size)) (p := ⟨w.heap.size, 0, none⟩) (Nat.le_refl _) _) (p := ⟨w.heap.size + 1, 0, none⟩) (by show w.heap.size ≤ w.heap.size + 1; omega) _) (p := ⟨w.heap.size + 1, 1, none⟩) (by show w.heap.size ≤ w.heap.size + 1; omega) _) (p := ⟨w.heap.size + 1, 2, none⟩) (by show w.heap.size ≤ w.heap.size + 1; omega) _)

end Go.Proofs.YtphegggekcjenaaDoor
