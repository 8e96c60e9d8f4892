/- The law of the order of names. -/
import Derived.Test.YtphegggekcjenaaDoorTwo
import Derived.Test.YtphegggekcjenaaDoorOrderP
import Derived.Test.YtphegggekcjenaaDoorSame
namespace Go.Proofs.YtphegggekcjenaaDoor
open Go.RowKit

/-- a row of texts that may be written -/
def Lr (n : Nat) (W : World) (p : Option Addr) (l : Row) : Prop := l ≠ [] → ∃ g cur, p = some ⟨g, 0, none⟩ ∧ n ≤ g ∧ W.heap[g]? = some (.cells cur 9 (0, 0)) ∧ ∀ i (h : i < l.length), cur[i]? = some (txt l[i])
theorem Lr.turn {n : Nat} {W W' : World} {p : Option Addr} {l : Row} (h : Lr n W p l) (k : ∀ g, n ≤ g → g < W.heap.size → p = some ⟨g, 0, none⟩ → W'.heap[g]? = W.heap[g]?) : Lr n W' p l := fun hne => by
  obtain ⟨g, cur, h1, h2, h3, h4⟩ := h hne
  exact ⟨g, cur, h1, h2, (k g h2 (Array.getElem?_eq_some_iff.1 h3).1 h1).trans h3, h4⟩
theorem Lr.of_own {B : Nat} {W : World} {p : Option Addr} {c : Nat} {l : Row} (h : Own B W (.slice p l.length c) l) : Lr B W p l := fun hne => by
  rcases h.2 with ⟨h1, h0⟩ | ⟨g, cap, cur, h1, hg, hc, hnc, _⟩
  · exact absurd (List.length_eq_zero_iff.1 h0) hne
  · injection h1 with e1 e2 e3
    refine ⟨g, cur, e1, hg, hc, fun i hi => ?_⟩
    have := World.ownsRow.cells h (g := g) (by rw [e1]; rfl) i (txt l[i]) (by simp [hi])
    rwa [Go.WideShapes.add_plain, Nat.zero_add, cell_of_row W g i _ _ _ hc] at this
theorem Lr.swap {n : Nat} {W : World} {p : Option Addr} {l : Row} (h : Lr n W p l) {i j : Nat} (hi : i < l.length) (hj : j < l.length) {g : Nat} (hp : p = some ⟨g, 0, none⟩) : Lr n ((W.setCell ⟨g, i, none⟩ (txt l[j])).setCell ⟨g, j, none⟩ (txt l[i])) p (swp l i j) := fun _ => by
  obtain ⟨g', cur, h1, h2, h3, h4⟩ := h (by intro e; subst e; simp at hi)
  obtain rfl : g' = g := by rw [h1] at hp; injection hp with hp; injection hp
  refine ⟨g', _, h1, h2, heap_setCell_same _ g' j _ _ _ (heap_setCell_same _ g' i _ _ _ h3), fun k hk => ?_⟩
  have hs : ∀ k, k < l.length → k < cur.size := fun k hk => (Array.getElem?_eq_some_iff.1 (h4 k hk)).1
  have hk' : k < l.length := by simpa [swp] using hk
  have e1 : l.getD j [] = l[j] := by simp [List.getD, hj]
  have e2 : l.getD i [] = l[i] := by simp [List.getD, hi]
  simp only [swp, e1, e2, List.getElem_set]
  by_cases hkj : j = k
  · subst hkj
    rw [Array.getElem?_setIfInBounds_self_of_lt (by simpa using hs j hj), if_pos rfl]
  · rw [Array.getElem?_setIfInBounds_ne hkj, if_neg hkj]
    by_cases hki : i = k
    · subst hki
      rw [Array.getElem?_setIfInBounds_self_of_lt (hs i hi), if_pos rfl]
    · rw [Array.getElem?_setIfInBounds_ne hki, if_neg hki]
      exact h4 k hk'
/-- texts that came in are put behind an own row -/
theorem Own.app0 {B : Nat} {W : World} {v : Value} {l : Row} (h : Own B W v l) (hB : B ≤ W.heap.size) (p : Option Addr) (c : Nat) (m : Row) (hS : Strs W p m) (hn : p = none → c = 0) (hmc : m.length ≤ c) (hl : l.length + m.length ≤ 1000000) :
    ∃ v' W', (Builtin.append_ #[40, 40] 40 #[v, .slice p m.length c]).run Tryd.prog W = .ok v' W' ∧ Own B W' v' (l ++ m) ∧ Below B W W' := by
  by_cases hm : m = []
  · subst hm
    cases p with
    | none =>
      rw [hn rfl]
      exact ⟨v, W, append_none h, by simpa [Own] using h, Below.refl _ _⟩
    | some a =>
      obtain ⟨i0, hi, hz0, hz1, hz2⟩ := info_parts infoS
      obtain ⟨v', w', hrun, ho, hgr, _⟩ := run_append_own (P := Tryd.prog) W B 40 40 9 i0 (.string ⟨#[]⟩) 1 16 Tryd.underlying40 hi hz0 hz1 hz2 rfl (by decide) _ _ _ h a 0 c [] rfl
        (fun j u' hj => by simp at hj) (fun u' hu' => by cases hu') (by unfold maxLen; simp at hl; omega) (by simp at hl; omega) hB
      refine ⟨v', w', hrun, ?_, (Below.refl B W).grown hgr hB (fun k hk => (World.ownsRow.lt h k hk).1)⟩
      show w'.ownsRow B 9 1 v' (l ++ []).length ((l ++ []).map txt)
      simpa using ho
  · obtain ⟨b, o, rfl, hc'⟩ := hS hm
    have hp : 0 < m.length := List.length_pos_iff.2 hm
    exact h.app (P := fun _ => True) hB (.inr ⟨b, o, c, rfl, hmc, trivial, block_lt_of_cell (hc' 0 hp), hc'⟩) hl

theorem Strs.below {w w' : World} {p : Option Addr} {l : Row} (h : Strs w p l) (k : Below w.heap.size w w') : Strs w' p l := fun hne => by
  obtain ⟨b, o, rfl, hc⟩ := h hne
  exact ⟨b, o, rfl, fun i hi => cell_turn (hc i hi) (k.block b (block_lt_of_cell (hc i hi)))⟩
set_option maxHeartbeats 4000000 in
set_option maxRecDepth 100000 in
theorem order_any {V : World → Prop} {B : Nat} {Dq : World → Nat → (Nat → Prop) → DM Int → Prop} {Ds : World → Nat → (Nat → Prop) → DM Nm → Prop} (M : MethI V B Dq) (S : MethS V B Ds) (p : Option Addr) (ns : Row) (cp : Nat) (p' : Option Addr) (ord : List Int) (cp' : Nat) (w : World) (hV : V w) (hB : B ≤ w.heap.size)
    (hL : Strs w p ns) (hN : ∀ x ∈ ns, x.length ≤ 140737488351232) (hnil : p = none → cp = 0) (hcp : ns.length ≤ cp) (hn : ns.length ≤ 9223372036854775807) (hO' : Nums w p' ord) (hfit : ∀ x ∈ ord, -9223372036854775808 ≤ x ∧ x ≤ 9223372036854775807) (hn' : ord.length ≤ 9223372036854775807) :
    Calls Tryd.prog 8 #[.slice p ns.length cp, .slice p' ord.length cp'] w fun e w' => e = .returned (.bool true) ∧ Below w.heap.size w w' := by
  have HM := hid M
  have HS := hid S
  have HV := hid hV
  have HL := hid hL
  have HNL := hid hN
  have HOr := hid hO'
  have HFi := hid hfit
  have HNil := hid hnil
  have HNew := hid (S.new w hV hB)
  clear M S hV hL hN hO' hfit hnil
  have hnz : (ns.length : Int) ≤ 9223372036854775807 := by omega
  have hnz' : (ord.length : Int) ≤ 9223372036854775807 := by omega
  by_cases hbig : 300 < ns.length
  · have h1 : (300 : Int) < (ns.length : Int) := by omega
    clear hbig
    go_enter Tryd.func8, Tryd.ntmps8
    go_wp2_with fail
    refine HNew.out.mono ?_; rintro e w1 ⟨b1, rfl, hh⟩
    obtain ⟨O0, hO0⟩ := hh.out
    have HB1 := hid hO0.2.2
    clear hh hO0
    go_wp2_with fail
    refine (HS.out.new w1 (HM.out.envB HV.out hB hB HB1.out) (Nat.le_trans hB HB1.out.size)).mono ?_; rintro e w2 ⟨b2, rfl, hh⟩
    obtain ⟨O2, hO2⟩ := hh.out
    have HB2 := hid (HB1.out.trans (hO2.2.2.mono HB1.out.size))
    clear hh hO2
    go_wp2_with fail
    refine (alive_any HM.out _ (HM.out.envB HV.out hB hB HB2.out) (Nat.le_trans hB HB2.out.size)).mono ?_; rintro e w3 ⟨rfl, hh⟩
    have HB3 := hid (HB2.out.trans (hh.out.mono HB2.out.size))
    clear hh
    go_wp2_with fail
    go_ret
    exact ⟨rfl, HB3.out⟩
  · have h1 : ¬ (300 : Int) < (ns.length : Int) := by omega
    go_enter Tryd.func8, Tryd.ntmps8
    go_wp2_with fail
    refine HNew.out.mono ?_; rintro e w1 ⟨b1, rfl, hh⟩
    obtain ⟨O1, hO1⟩ := hh.out
    have H1 := hid hO1
    clear hh hO1 HNew
    go_wp2_with fail
    refine (HS.out.new w1 (HM.out.envB HV.out hB hB H1.out.2.2) (Nat.le_trans hB H1.out.2.2.size)).mono ?_; rintro e w2 ⟨b2, rfl, hh⟩
    obtain ⟨O2, hO2⟩ := hh.out
    have HB2 := hid (H1.out.2.2.trans (hO2.2.2.mono H1.out.2.2.size))
    have HT2 := hid (Two.new HS.out.frm H1.out.1 H1.out.2.1 H1.out.2.2 hO2.1 hO2.2.1 hO2.2.2)
    clear hh hO2 H1
    have HBa := hid (below_alloc w2 (.cells #[] 9))
    obtain ⟨v3, w3, hrun, ho3, hb3⟩ := Own.app0 (B := w2.heap.size) (W := w2.alloc (.cells #[] 9)) (v := .slice (some ⟨w2.heap.size, 0, none⟩) 0 0) (l := []) (World.ownsRow_lit w2 #[] 0 (Nat.le_refl _) (by decide) rfl) (by simp) p cp ns (HL.out.below (HB2.out.trans (HBa.out.mono HB2.out.size))) HNil.out hcp (by simp; omega)
    have HR := hid hrun
    obtain ⟨q3, c3, rfl, -⟩ := (ho3.tl (P := fun _ => True) (fun _ _ => trivial)).shape
    rw [List.nil_append] at ho3 HR
    have HLr := hid (Lr.of_own ho3)
    have hb23 := HBa.out.trans hb3
    have HB23 := hid hb23
    clear hrun ho3 hb3 hb23
    go_wp2_with (refine wpList_append_runs rfl _ _ 40 40 rfl _ _ _ _ rfl rfl HR.out (Hid.out ?_))
    refine hid ?_
    go_wp2_with fail
    clear HR
    go_loopw [8, 9, 42] (fun _ _ v42 W => ∃ (i : Nat) (l : Row), v42 = .int .i64 i ∧ i ≤ ord.length ∧ Hid (l.Perm ns) ∧ Hid (Lr w2.heap.size W q3 l) ∧ Hid (Below w2.heap.size w2 W)) (fun _ _ v42 _ => ord.length - (intOf v42).toNat)
    case atStart => exact ⟨0, ns, rfl, Nat.zero_le _, List.Perm.refl _, HLr.out, HB23.out⟩
    case round =>
      obtain ⟨i, l, rfl, hi, HPe, HLl, HWW⟩ := hrel
      have hll : l.length = ns.length := HPe.out.length_eq
      by_cases hlt : i < ord.length
      · have hlz : (i : Int) < (ord.length : Int) := by omega
        obtain ⟨g', o', rfl, hca⟩ := HOr.out (fun e => by rw [e] at hlt; simp at hlt)
        have hgo : g' < w.heap.size := block_lt_of_cell (hca i hlt)
        have y0 := cell_turn (hca i hlt) ((HWW.out.block g' (by have := HB2.out.size; omega)).trans (HB2.out.block g' hgo))
        have hfx := HFi.out _ (List.getElem_mem hlt)
        generalize ord[i] = x at *
        clear hca hgo
        by_cases hc : (i : Int) < (ns.length : Int) ∧ 0 ≤ x ∧ x < (ns.length : Int)
        · obtain ⟨hc1, hc2, hc3⟩ := hc
          obtain ⟨j, rfl⟩ : ∃ j : Nat, x = (j : Int) := ⟨x.toNat, by omega⟩
          have hil : i < l.length := by omega
          have hjl : j < l.length := by omega
          obtain ⟨g, cur, rfl, hg1, hg2, hg3⟩ := HLl.out (fun e => by rw [e] at hil; simp at hil)
          have z1 : wr.cell? ⟨g, i, none⟩ = some (txt l[i]) := by rw [cell_of_row wr g i _ _ _ hg2]; exact hg3 i hil
          have z2 : wr.cell? ⟨g, j, none⟩ = some (txt l[j]) := by rw [cell_of_row wr g j _ _ _ hg2]; exact hg3 j hjl
          have f1 := frozen_of_row wr g i _ _ hg2
          have f2 := frozen_of_row wr g j _ _ hg2
          have HSw := hid (HLl.out.swap hil hjl rfl)
          have HPs := hid ((swp_perm l i j hil hjl).trans HPe.out)
          have HWs : Hid (Below w2.heap.size w2 ((wr.setCell ⟨g, i, none⟩ (txt l[j])).setCell ⟨g, j, none⟩ (txt l[i])).drew) := ((HWW.out.setCell (p := ⟨g, i, none⟩) hg1 _).setCell (p := ⟨g, j, none⟩) hg1 _).drew
          clear hg2 hg3
          by_cases hij : i = j
          · subst hij
            generalize l[i] = s at *
            go_wp2_with fail
            go_region
            all_goals go_wp2_with fail
            all_goals exact ⟨⟨i + 1, swp l i i, by go_num, by omega, HPs.out, HSw.out, HWs.out⟩, by simp [intOf]; omega⟩
          · have hji : ¬ j = i := fun e => hij e.symm
            generalize l[i] = s at *
            generalize l[j] = u at *
            go_wp2_with fail
            go_region
            all_goals go_wp2_with fail
            all_goals exact ⟨⟨i + 1, swp l i j, by go_num, by omega, HPs.out, HSw.out, HWs.out⟩, by simp [intOf]; omega⟩
        · by_cases hc1 : (i : Int) < (ns.length : Int)
          · by_cases hc2 : 0 ≤ x
            · have hc3 : ¬ x < (ns.length : Int) := fun h => hc ⟨hc1, hc2, h⟩
              go_wp2_with fail
              exact ⟨⟨i + 1, l, by go_num, by omega, HPe.out, HLl.out, HWW.out⟩, by simp [intOf]; omega⟩
            · go_wp2_with fail
              exact ⟨⟨i + 1, l, by go_num, by omega, HPe.out, HLl.out, HWW.out⟩, by simp [intOf]; omega⟩
          · go_wp2_with fail
            exact ⟨⟨i + 1, l, by go_num, by omega, HPe.out, HLl.out, HWW.out⟩, by simp [intOf]; omega⟩
      · have HTr := hid (HT2.out.below HS.out.frm HWW.out)
        have HBr := hid (HB2.out.trans (HWW.out.mono HB2.out.size))
        have hz2A := HWW.out.size
        have HLt : Hid (∀ k, O1 k ∨ O2 k → k < w2.heap.size) := fun k hk => hk.elim (HS.out.lt HT2.out.one k) (HS.out.lt HT2.out.two k)
        have HgA : Hid (l ≠ [] → ∃ g, q3 = some ⟨g, 0, none⟩ ∧ w2.heap.size ≤ g ∧ g < wr.heap.size) := fun hne => by
          obtain ⟨g, cur, h1, h2, h3, _⟩ := HLl.out hne
          exact ⟨g, h1, h2, (Array.getElem?_eq_some_iff.1 h3).1⟩
        generalize wr = wA at *
        clear HT2 HWW HLr HB23
        go_wp2_with fail
        go_loopw [10, 78] (fun _ v78 W => ∃ i : Nat, v78 = .int .i64 i ∧ i ≤ ns.length ∧ Hid (∃ O1 O2, Two Ds w.heap.size O1 O2 W b1 b2 (ordD ns i) (ordD l i) ∧ ∀ k, O1 k ∨ O2 k → k < w2.heap.size ∨ wA.heap.size ≤ k) ∧ Hid (Lr w2.heap.size W q3 l) ∧ Hid (Below w.heap.size w W) ∧ wA.heap.size ≤ W.heap.size) (fun _ v78 _ => ns.length - (intOf v78).toNat)
        case atStart => exact ⟨0, rfl, Nat.zero_le _, ⟨O1, O2, HTr.out, fun k hk => .inl (HLt.out k hk)⟩, HLl.out, HBr.out, Nat.le_refl _⟩
        case round =>
          obtain ⟨j, rfl, hj, HTT, HLj, HWj, hAj⟩ := hrel
          obtain ⟨O3, O4, hT, hOx⟩ := HTT.out
          have HT := hid hT
          have HOx := hid hOx
          clear HTT hT hOx HLl HTr HBr HLt
          by_cases hjl : j < ns.length
          · have hjz : (j : Int) < (ns.length : Int) := by omega
            have hjl2 : j < l.length := by omega
            obtain ⟨gn, on, rfl, hcn⟩ := HL.out (fun e => by rw [e] at hjl; simp at hjl)
            have hgn : gn < w.heap.size := block_lt_of_cell (hcn j hjl)
            have x0 := cell_turn (hcn j hjl) (HWj.out.block gn hgn)
            obtain ⟨g, rfl, hg1, hg2⟩ := HgA.out (fun e => by rw [e] at hjl2; simp at hjl2)
            have Hcl : Hid (∀ W', Lr w2.heap.size W' (some ⟨g, 0, none⟩) l → W'.cell? ⟨g, j, none⟩ = some (txt l[j])) := fun W' h => by
              obtain ⟨g', cur, h1, _, h3, h4⟩ := h (fun e => by rw [e] at hjl2; simp at hjl2)
              injection h1 with h1
              injection h1 with h1
              subst h1
              rw [cell_of_row W' g j _ _ _ h3]
              exact h4 j hjl2
            have hNs := HNL.out _ (List.getElem_mem hjl)
            have hNl := HNL.out _ (HPe.out.mem_iff.1 (List.getElem_mem hjl2))
            have e1 : ns.getD j [] = ns[j] := by simp [List.getD, hjl]
            have e2 : l.getD j [] = l[j] := by simp [List.getD, hjl2]
            have HN1 : Hid (putD (ordD ns j) ns[j] (118 :: ns[j]) = ordD ns (j + 1)) := by unfold Hid; rw [← e1]; rfl
            have HN2 : Hid (putD (ordD l j) l[j] (118 :: l[j]) = ordD l (j + 1)) := by unfold Hid; rw [← e2]; rfl
            have HP1 := hid fun (W : World) (h : Ds W b1 O3 (ordD ns j)) => HS.out.put b1 O3 (ordD ns j) ns[j] (118 :: ns[j]) W h ((ord_small ns j).mono (by omega)) hNs
            have HP2 := hid fun (W : World) (h : Ds W b2 O4 (ordD l j)) => HS.out.put b2 O4 (ordD l j) l[j] (118 :: l[j]) W h ((ord_small l j).mono (by omega)) hNl
            rw [HN1.out, show txt (118 :: ns[j]) = .string ((⟨#[118]⟩ : ByteArray) ++ (⟨ns[j].toArray⟩ : ByteArray)) by rw [show (⟨#[118]⟩ : ByteArray) ++ (⟨ns[j].toArray⟩ : ByteArray) = ⟨(118 :: ns[j]).toArray⟩ from bcat [118] ns[j]]] at HP1
            rw [HN2.out, show txt (118 :: l[j]) = .string ((⟨#[118]⟩ : ByteArray) ++ (⟨l[j].toArray⟩ : ByteArray)) by rw [show (⟨#[118]⟩ : ByteArray) ++ (⟨l[j].toArray⟩ : ByteArray) = ⟨(118 :: l[j]).toArray⟩ from bcat [118] l[j]]] at HP2
            generalize ns[j] = s at *
            generalize l[j] = u at *
            clear hcn HN1 HN2 e1 e2
            have hs1 : ¬ 9223372036854775807 < 1 + s.length := by omega
            have hu1 : ¬ 9223372036854775807 < 1 + u.length := by omega
            have HTd := hid (HT.out.below HS.out.frm (Below.refl _ wr).drew)
            go_wp2_with fail
            go_region_law (go_simp; go_at_call 26; refine (HP1.out _ HTd.out.one).mono ?_; rintro e w5 ⟨rfl, hh⟩; obtain ⟨O5, k1, k3, k4⟩ := hh.out; have HT5 := hid (HTd.out.fst HS.out.frm hB HWj.out.size k1 k3 k4); have hs5 : wr.heap.size ≤ w5.heap.size := k4.size; have HO5 : Hid (∀ k, O5 k ∨ O4 k → k < w2.heap.size ∨ wA.heap.size ≤ k) := (fun k hk => hk.elim (fun h => (k3 k h).elim (fun h => HOx.out k (.inl h)) (fun h => .inr (Nat.le_trans hAj h))) (fun h => HOx.out k (.inr h))); have HL5 := hid (HLj.out.turn (W' := w5) (fun g' h1 h2 h3 => k4.block g' h2 (fun h => by injection h3 with h3; injection h3 with h3; have := HOx.out g' (.inl h); omega))); have HW5 := hid (keep_off_below HWj.out.drew k4 HT.out.off1 HWj.out.size); clear hh k1 k3 k4)
            all_goals
              have x1 := Hcl.out _ HL5.out
              have HT5d := hid (HT5.out.below HS.out.frm (Below.refl _ w5).drew)
              go_wp2_with fail
              go_region_law (go_simp; go_at_call 26; refine (HP2.out _ HT5d.out.two).mono ?_; rintro e w6 ⟨rfl, hh⟩; obtain ⟨O6, k1, k3, k4⟩ := hh.out; have HT6 := hid (HT5d.out.snd HS.out.frm hB HW5.out.size k1 k3 k4); have hs6 : w5.heap.size ≤ w6.heap.size := k4.size; have HO6 : Hid (∀ k, O5 k ∨ O6 k → k < w2.heap.size ∨ wA.heap.size ≤ k) := (fun k hk => hk.elim (fun h => HO5.out k (.inl h)) (fun h => (k3 k h).elim (fun h => HO5.out k (.inr h)) (fun h => .inr (Nat.le_trans hAj (Nat.le_trans hs5 h))))); have HL6 := hid (HL5.out.turn (W' := w6) (fun g' h1 h2 h3 => k4.block g' h2 (fun h => by injection h3 with h3; injection h3 with h3; have := HO5.out g' (.inr h); omega))); have HW6 := hid (keep_off_below HW5.out.drew k4 HT5.out.off2 HW5.out.size); clear hh k1 k3 k4)
              all_goals go_wp2_with fail
              all_goals exact ⟨⟨j + 1, by go_num, by omega, ⟨O5, O6, HT6.out, HO6.out⟩, HL6.out, HW6.out, by omega⟩, by simp [intOf]; omega⟩
          · obtain rfl : j = ns.length := by omega
            have e1 : ordD l ns.length = ordD l l.length := by rw [hll]
            rw [e1] at HT
            have hSL := ord_same HPe.out.symm
            have hsm1 : Small 100000 (ordD ns ns.length) := (ord_small ns ns.length).mono (by omega)
            have hsm2 : Small 100000 (ordD l l.length) := (ord_small l l.length).mono (by omega)
            have HGt : Hid (∀ s ∈ ns, ∀ W, Ds W b2 O4 (ordD l l.length) → Calls Tryd.prog 27 #[ptr b2, txt s] W fun e w' => e = .returned (.tuple #[txt (118 :: s), .bool true]) ∧ Hid (Below W.heap.size W w')) := fun s hs W h => by
              have := HS.out.get b2 O4 (ordD l l.length) s W h hsm2 (HNL.out s hs)
              rw [ord_get (HPe.out.mem_iff.2 hs)] at this
              exact this
            have HNa := hid fun W h => HS.out.names b1 O3 (ordD ns ns.length) W h hsm1
            have HNb := hid fun W h => HS.out.names b2 O4 (ordD l l.length) W h hsm2
            have HLa := hid fun W h => HS.out.length b1 O3 (ordD ns ns.length) W h
            have HLb := hid fun W h => HS.out.length b2 O4 (ordD l l.length) W h
            rw [← hSL] at HNb HLb
            have hlb : (namesL (ordD ns ns.length).L).length ≤ 1000000 := by have := (ord_small ns ns.length).len; simp [namesL]; omega
            have HSm := hid fun (W : World) (P Q : Nat → Prop) (v u : Value) (h1 : Tl P W v (namesL (ordD ns ns.length).L)) (h2 : Tl Q W u (namesL (ordD ns ns.length).L)) => same_any P Q v u _ _ W h1 h2 hlb
            simp only [decide_true] at HSm
            generalize (ordD ns ns.length).L = LL at *
            generalize ordD ns ns.length = D1 at *
            generalize ordD l l.length = D2 at *
            clear hSL hsm1 hsm2 hlb e1 hjl
            have HWx := hid (Below.refl wr.heap.size wr)
            generalize wr = wB at *
            go_wp2_with fail
            go_loopw [12, 13, 14, 106] (fun _ _ _ v106 W => ∃ k : Nat, v106 = .int .i64 k ∧ k ≤ ns.length ∧ Hid (Below wB.heap.size wB W)) (fun _ _ _ v106 _ => ns.length - (intOf v106).toNat)
            case atStart => exact ⟨0, rfl, Nat.zero_le _, HWx.out⟩
            case round =>
              obtain ⟨k, rfl, hk, HWk⟩ := hrel
              by_cases hkl : k < ns.length
              · have hkz : (k : Int) < (ns.length : Int) := by omega
                obtain ⟨gn, on, rfl, hcn⟩ := HL.out (fun e => by rw [e] at hkl; simp at hkl)
                have hgn : gn < w.heap.size := block_lt_of_cell (hcn k hkl)
                have x0 := cell_turn (hcn k hkl) ((HWk.out.block gn (by have := HWj.out.size; omega)).trans (HWj.out.block gn hgn))
                have HGk := hid (HGt.out _ (List.getElem_mem hkl))
                have hNs := HNL.out _ (List.getElem_mem hkl)
                generalize ns[k] = s at *
                have hs1 : ¬ 9223372036854775807 < 1 + s.length := by omega
                have HTk := hid (HT.out.below HS.out.frm HWk.out)
                clear hcn
                go_wp2_with fail
                refine (HGk.out _ HTk.out.two).mono ?_; rintro e w5 ⟨rfl, hh⟩
                have HW5 := hid (HWk.out.trans (hh.out.mono HWk.out.size))
                clear hh
                rw [show txt (118 :: s) = .string ((⟨#[118]⟩ : ByteArray) ++ (⟨s.toArray⟩ : ByteArray)) by rw [show (⟨#[118]⟩ : ByteArray) ++ (⟨s.toArray⟩ : ByteArray) = ⟨(118 :: s).toArray⟩ from bcat [118] s]]
                go_wp2_with fail
                exact ⟨⟨k + 1, by go_num, by omega, HW5.out⟩, by simp [intOf]; omega⟩
              · have HBk := hid (HWj.out.trans (HWk.out.mono HWj.out.size))
                have HTk := hid (HT.out.below HS.out.frm HWk.out)
                go_wp2_with fail
                refine (alive_any HM.out _ (HM.out.envB HV.out hB hB HBk.out) (Nat.le_trans hB HBk.out.size)).mono ?_; rintro e w5 ⟨rfl, hh⟩
                have HB5 := hid (HBk.out.trans (hh.out.mono HBk.out.size))
                have HT5 := hid (HTk.out.below HS.out.frm hh.out)
                clear hh
                go_wp2_with fail
                refine (HNa.out _ HT5.out.one).mono ?_; rintro e w6 ⟨q6, c6, rfl, hh⟩
                have HB6 := hid (HB5.out.trans (hh.out.2.mono HB5.out.size))
                have HT6 := hid (HT5.out.below HS.out.frm hh.out.2)
                have HA6 := hid hh.out.1
                clear hh
                go_wp2_with fail
                refine (HNb.out _ HT6.out.two).mono ?_; rintro e w7 ⟨q7, c7, rfl, hh⟩
                have HB7 := hid (HB6.out.trans (hh.out.2.mono HB6.out.size))
                have HT7 := hid (HT6.out.below HS.out.frm hh.out.2)
                have HA7 := hid (HA6.out.below hh.out.2)
                have HC7 := hid hh.out.1
                clear hh
                go_wp2_with fail
                refine (HSm.out _ _ _ _ _ HA7.out HC7.out).mono ?_; rintro e w8 ⟨rfl, hh⟩
                have HB8 := hid (HB7.out.trans (hh.out.mono HB7.out.size))
                have HT8 := hid (HT7.out.below HS.out.frm hh.out)
                clear hh
                go_wp2_with fail
                refine (HLa.out _ HT8.out.one).mono ?_; rintro e w9 ⟨rfl, hh⟩
                have HB9 := hid (HB8.out.trans (hh.out.mono HB8.out.size))
                have HT9 := hid (HT8.out.below HS.out.frm hh.out)
                clear hh
                go_wp2_with fail
                refine (HLb.out _ HT9.out.two).mono ?_; rintro e w10 ⟨rfl, hh⟩
                have HB10 := hid (HB9.out.trans (hh.out.mono HB9.out.size))
                clear hh
                go_wp2_with fail
                go_ret
                exact ⟨rfl, HB10.out⟩

end Go.Proofs.YtphegggekcjenaaDoor
