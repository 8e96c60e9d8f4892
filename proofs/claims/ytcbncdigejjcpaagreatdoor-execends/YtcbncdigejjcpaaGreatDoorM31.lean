/- DEDel. -/
import Derived.Test.YtcbncdigejjcpaaGreatDoorM27
import Derived.Test.YtcbncdigejjcpaaGreatDoorM29
namespace Go.Proofs.YtcbncdigejjcpaaGreatDoor.Dc.DE
open Go.RowKit

/-- a name is taken out -/
theorem Half.del {B : Nat} {w w' : World} {b : Nat} {g g0 : Tg} {w0 : World} {nb : Nat} {ev : Value} {D : DM E8} {T : TM E8} (h : Half B w b g g0 w0 nb ev D T) {n : Nm} {e : Bool} {tb : Nat} {l : Tb E8} {i k : Nat} (s : Spot w g nb ev T n e tb l i k) (v0 : E8) (gr c m : Nat) (hu : w.cell? ⟨tb, i, none⟩ = some (.slice (some ⟨gr, 0, none⟩) (l[i]'s.hi).length c))
    (he : l[i]'s.hi = (l[i]'s.hi).take k ++ (n, v0) :: (l[i]'s.hi).drop (k + 1)) (hR : Room w' (.slice (some ⟨gr, 0, none⟩) m c) ((l[i]'s.hi).take k ++ (l[i]'s.hi).drop (k + 1))) (hos : w'.os = w.os) (htp : w'.tape = w.tape) (hou : w'.output = w.output) (hsz : w'.heap.size = w.heap.size) (ho : ∀ j, j ≠ gr → w'.heap[j]? = w.heap[j]?) :
    ∃ g' T', Lies B (w'.setCell ⟨tb, i, none⟩ (.slice (some ⟨gr, 0, none⟩) m c)) g' b nb ev T' D.L.length ∧ T'.nw.length = T.nw.length ∧ Half B ((w'.setCell ⟨tb, i, none⟩ (.slice (some ⟨gr, 0, none⟩) m c)).setCell ⟨b, 3, none⟩ (.int .i64 ((D.L.length : Int) - 1))) b g' g0 w0 nb ev ⟨delL n D.L, D.rooms, D.left⟩ T' := by
  obtain ⟨g', ht, hup⟩ := s.tab.stored (fun j hj => (h.lies.lt j hj).1) i s.hi _ (.slice (some ⟨gr, 0, none⟩) m c) _ hu hR hos htp hou (by omega) (fun j _ hj => ho j (fun e => hj (by rw [e]; rfl))) (fun j hj => .inl hj)
  have hL := s.turned h.lies h.env.size _ ht hup
  have hG := s.good_del h.good he
  have hhas : hasL n D.L = true := by
    rcases s.is with ⟨_, _, rfl⟩ | ⟨_, _, rfl, _⟩
    · exact (h.good.foundN s.hi he).2.1
    · exact (h.good.foundE s.hi he).2.1
  have ho2 : ∀ j, j ≠ b → ((w'.setCell ⟨tb, i, none⟩ (.slice (some ⟨gr, 0, none⟩) m c)).setCell ⟨b, 3, none⟩ (.int .i64 ((D.L.length : Int) - 1))).heap[j]? = (w'.setCell ⟨tb, i, none⟩ (.slice (some ⟨gr, 0, none⟩) m c)).heap[j]? := fun j hj => heap_setCell_other _ _ _ _ hj
  have hT := Turn.head (g := g') (w' := (w'.setCell ⟨tb, i, none⟩ (.slice (some ⟨gr, 0, none⟩) m c)).setCell ⟨b, 3, none⟩ (.int .i64 ((D.L.length : Int) - 1))) (b := b) (by rw [hL.tag]; simp) ho2 (by simp) rfl rfl rfl
  refine ⟨g', _, hL, by cases e <;> simp, hL.rehead ?_ ho2 (by simp) rfl hL.el, hG, hT.env (hup.turn.env h.env h.lies.lt) hL.lt, (h.turn.trans hup.turn).trans hT⟩
  have h1 := heap_setCell_same _ b 3 _ _ (.int .i64 ((D.L.length : Int) - 1)) hL.head
  have h2 : ((delL n D.L).length : Int) = (D.L.length : Int) - 1 := by have := (put_len_has h.good.srt hhas e80).2; omega
  simpa [headC, h2] using h1
set_option maxHeartbeats 4000000 in
set_option maxRecDepth 100000 in
/-- Delete: the name is there -/
theorem del_has {B : Nat} {w : World} {b : Nat} {g : Tg} {nb : Nat} {ev : Value} {D : DM E8} {T : TM E8} (h : Half B w b g g w nb ev D T) (hS : Small 100000 D) (hnm : ∀ x ∈ D.L, x.1.length ≤ 140737488351232) (n : Nm) (hn : n.length ≤ 140737488351232) (hyes : hasL n D.L = true) :
    Calls Tryz.prog 59 #[.pointer (some ⟨b, 0, none⟩), txt n] w fun e w' => e = .returned (.bool (hasL n D.L)) ∧ Hid (∃ g' nb' ev' T', Half B w' b g' g w nb' ev' (delD D n) T') := by
  have HS := hid (h.step hS hnm)
  have HS1 := hid (hS.step)
  have HYes : Hid (hasL n (stepD D).L = true) := hyes
  show Calls Tryz.prog 59 _ w fun e w' => e = .returned (.bool (hasL n (stepD D).L)) ∧ Hid (∃ g' nb' ev' T', Half B w' b g' g w nb' ev' (shrink ⟨delL n (stepD D).L, (stepD D).rooms, (stepD D).left⟩) T')
  have HSm : Hid (Small 200000 (DM.mk (delL n (stepD D).L) (stepD D).rooms (stepD D).left)) := by
    have h1 := HS1.out
    have h2 := delL_len n (stepD D).L
    exact ⟨by have := h1.len; simp only; omega, by have := h1.rooms; simp only; omega, by have := h1.left; simp only; omega⟩
  clear hyes
  generalize stepD D = D1 at *
  clear h hS hnm
  go_enter Tryz.func59, Tryz.ntmps59
  go_wp2_with fail
  refine HS.out.mono ?_; rintro e w1 ⟨rfl, hh⟩
  obtain ⟨g1, ev1, T1, h1⟩ := hh.out
  clear hh HS
  have hlen := HS1.out.len
  have hrooms := HS1.out.rooms
  have HR1 := hid h1.good.rooms
  have HQ := hid h1.good.quarter
  rcases find_cases h1.lies h1.good h1.env (Fit.of h1.good HS1.out) n hn with ⟨e, tb, l, i, k, s, hf⟩ | ⟨hno, q, hf⟩
  · have HF := hid hf
    have H1 := hid h1
    have HSp := hid s
    clear hf s h1
    go_wp2_with fail
    refine HF.out.mono ?_; rintro e w2 ⟨rfl, hb⟩
    have h2 := H1.out.below hb.out
    have s2 := HSp.out.below H1.out.lies hb.out
    obtain ⟨v0, c, gr, ⟨hk, -⟩, he, hll, hhas, -, hu, hR, htb, hgr, -, -, xf, hne⟩ := s2.found h2.good HS1.out
    have hkl : k = ((l[i]'s2.hi).take k).length := by rw [List.length_take]; omega
    have HCut := hid (cut_any hR rfl he hkl)
    have hkz : (k : Int) < ((l[i]'s2.hi).length : Int) := by omega
    have HHas := hid hhas
    have HNw : Hid ((delL n D1.L).length + 1 = D1.L.length) := (put_len_has h2.good.srt hhas e80).2
    have HU := hid hu
    have HHe := hid he
    have H2 := hid h2
    have HS2 := hid s2
    have HTB := hid (h2.lies.lt tb htb).1
    have hkm : k ≤ 100000 := by omega
    have HNe := hid hne
    clear h2 he hk hR hhas hkl htb hgr hne
    go_wp2_with fail
    refine HCut.out.mono ?_; rintro e w3 ⟨rfl, hh⟩
    obtain ⟨hR3, hos3, htp3, hou3, hsz3, ho3⟩ := hh.out
    obtain ⟨g4, T4, hL4, hn4, hX⟩ := H2.out.del HS2.out v0 gr c _ HU.out HHe.out hR3 hos3 htp3 hou3 hsz3 ho3
    have HX := hid hX
    have x3 := cell_turn HU.out (ho3 tb HNe.out)
    have xf3 : w3.frozen? ⟨tb, i, none⟩ = false := by
      obtain ⟨rv, ha, _⟩ := HS2.out.tab
      exact frozen_of_row w3 tb i _ _ ((ho3 tb HNe.out).trans ha)
    obtain ⟨d0, d1, _, d3⟩ := hL4.cells
    rw [hn4] at d0
    have f3 := hL4.frozen 3
    clear hh hR3 hL4 hX hos3 htp3 hou3 hsz3 ho3 HCut
    generalize (l[i]'s2.hi).length = m at *
    generalize hN : T1.nw.length = N at *
    generalize hM : D1.L.length = M at *
    have hNz : (N : Int) ≤ 200004 := by have := HR1.out; omega
    have hMz : (M : Int) ≤ 100000 := by omega
    have hM1 : (1 : Int) ≤ (M : Int) := by have := HNw.out; omega
    rcases HX.out.ev with ⟨rfl, he⟩ | ⟨eb, en, ec, rfl, hne⟩
    · have k1 := eq_none
      by_cases h4 : 4 < N
      · have h4z : (4 : Int) < (N : Int) := by omega
        by_cases hgt : 4 * (M - 1) < N
        · have hgz : ((M : Int) - 1) < (N : Int) / 4 := by have := HQ.out; have := HR1.out; omega
          have HG := hid (HX.out.shrinks HSm.out (by have := HR1.out; simp only; omega) (by have := HR1.out; simp only; have := HNw.out; omega) ((N : Int) / 2) (by have := HR1.out; simp only; omega))
          clear hgt h4 hlen hrooms
          go_wp2_with fail
          refine HG.out.mono ?_; rintro e w9 ⟨rfl, hh9⟩
          go_wp2_with fail
          go_ret
          exact ⟨by rw [HHas.out]; rfl, hh9⟩
        · have hgz : ¬ ((M : Int) - 1) < (N : Int) / 4 := by have := HQ.out; have := HR1.out; omega
          have HG := hid (HX.out.staysS (fun e => hgt (by have h5 := e.2.2; have := HR1.out; simp only at h5; have := HNw.out; omega)))
          clear hgt h4 hlen hrooms
          go_wp2_with fail
          go_ret
          exact ⟨by rw [HHas.out]; rfl, HG⟩
      · have h4z : ¬ (4 : Int) < (N : Int) := by omega
        have HG := hid (HX.out.staysS (fun e => h4 (by have h5 := e.2.1; have := HR1.out; simp only at h5; omega)))
        clear h4 hlen hrooms
        go_wp2_with fail
        go_ret
        exact ⟨by rw [HHas.out]; rfl, HG⟩
    · have k1 := eq_some ⟨eb, 0, none⟩ en ec
      have HG := hid (HX.out.staysS (fun e => hne e.1))
      clear hlen hrooms
      go_wp2_with fail
      go_ret
      exact ⟨by rw [HHas.out]; rfl, HG⟩
  · rw [HYes.out] at hno; cases hno
set_option maxHeartbeats 4000000 in
set_option maxRecDepth 100000 in
/-- Delete: the name is not there -/
theorem del_not {B : Nat} {w : World} {b : Nat} {g : Tg} {nb : Nat} {ev : Value} {D : DM E8} {T : TM E8} (h : Half B w b g g w nb ev D T) (hS : Small 100000 D) (hnm : ∀ x ∈ D.L, x.1.length ≤ 140737488351232) (n : Nm) (hn : n.length ≤ 140737488351232) (hyes : hasL n D.L = false) :
    Calls Tryz.prog 59 #[.pointer (some ⟨b, 0, none⟩), txt n] w fun e w' => e = .returned (.bool (hasL n D.L)) ∧ Hid (∃ g' nb' ev' T', Half B w' b g' g w nb' ev' (delD D n) T') := by
  have HS := hid (h.step hS hnm)
  have HS1 := hid (hS.step)
  have HYes : Hid (hasL n (stepD D).L = false) := hyes
  show Calls Tryz.prog 59 _ w fun e w' => e = .returned (.bool (hasL n (stepD D).L)) ∧ Hid (∃ g' nb' ev' T', Half B w' b g' g w nb' ev' (shrink ⟨delL n (stepD D).L, (stepD D).rooms, (stepD D).left⟩) T')
  have HSm : Hid (Small 200000 (DM.mk (delL n (stepD D).L) (stepD D).rooms (stepD D).left)) := by
    have h1 := HS1.out
    have h2 := delL_len n (stepD D).L
    exact ⟨by have := h1.len; simp only; omega, by have := h1.rooms; simp only; omega, by have := h1.left; simp only; omega⟩
  clear hyes
  generalize stepD D = D1 at *
  clear h hS hnm
  go_enter Tryz.func59, Tryz.ntmps59
  go_wp2_with fail
  refine HS.out.mono ?_; rintro e w1 ⟨rfl, hh⟩
  obtain ⟨g1, ev1, T1, h1⟩ := hh.out
  clear hh HS
  have hlen := HS1.out.len
  have hrooms := HS1.out.rooms
  have HR1 := hid h1.good.rooms
  have HQ := hid h1.good.quarter
  rcases find_cases h1.lies h1.good h1.env (Fit.of h1.good HS1.out) n hn with ⟨e, tb, l, i, k, s, hf⟩ | ⟨hno, q, hf⟩
  · obtain ⟨_, _, _, _, _, _, hhas, _⟩ := s.found h1.good HS1.out
    rw [HYes.out] at hhas; cases hhas
  · have HF := hid hf
    have H1 := hid h1
    have HNo := hid hno
    clear hf h1 hno
    go_wp2_with fail
    refine HF.out.mono ?_; rintro e w2 ⟨rfl, hb⟩
    have h2 := H1.out.below hb.out
    obtain ⟨c0, c1, _, c3⟩ := h2.lies.cells
    have HDn := hid (del_none HNo.out)
    have HX : Hid (Half B w2 b g1 g w nb ev1 ⟨delL n D1.L, D1.rooms, D1.left⟩ T1) := by
      unfold Hid
      rw [HDn.out]
      exact h2
    clear h2
    generalize hN : T1.nw.length = N at *
    generalize hM : D1.L.length = M at *
    have hNz : (N : Int) ≤ 200004 := by have := HR1.out; omega
    have hMz : (M : Int) ≤ 100000 := by omega
    rcases HX.out.ev with ⟨rfl, he⟩ | ⟨eb, en, ec, rfl, hne⟩
    · have k1 := eq_none
      by_cases h4 : 4 < N
      · have h4z : (4 : Int) < (N : Int) := by omega
        by_cases hgt : 4 * M < N
        · have hgz : (M : Int) < (N : Int) / 4 := by have := HQ.out; have := HR1.out; omega
          have HG := hid (HX.out.shrinks HSm.out (by have := HR1.out; simp only; omega) (by have := HR1.out; simp only; rw [HDn.out, hM]; omega) ((N : Int) / 2) (by have := HR1.out; simp only; omega))
          clear hgt h4 hlen hrooms
          go_wp2_with fail
          refine HG.out.mono ?_; rintro e w9 ⟨rfl, hh9⟩
          go_wp2_with fail
          go_ret
          exact ⟨by rw [HNo.out]; rfl, hh9⟩
        · have hgz : ¬ (M : Int) < (N : Int) / 4 := by have := HQ.out; have := HR1.out; omega
          have HG := hid (HX.out.staysS (fun e => hgt (by have h5 := e.2.2; have := HR1.out; simp only at h5; rw [HDn.out, hM] at h5; omega)))
          clear hgt h4 hlen hrooms
          go_wp2_with fail
          go_ret
          exact ⟨by rw [HNo.out]; rfl, HG⟩
      · have h4z : ¬ (4 : Int) < (N : Int) := by omega
        have HG := hid (HX.out.staysS (fun e => h4 (by have h5 := e.2.1; have := HR1.out; simp only at h5; omega)))
        clear h4 hlen hrooms
        go_wp2_with fail
        go_ret
        exact ⟨by rw [HNo.out]; rfl, HG⟩
    · have k1 := eq_some ⟨eb, 0, none⟩ en ec
      have HG := hid (HX.out.staysS (fun e => hne e.1))
      clear hlen hrooms
      go_wp2_with fail
      go_ret
      exact ⟨by rw [HNo.out]; rfl, HG⟩
/-- Delete -/
theorem del_any {B : Nat} {w : World} {b : Nat} {g : Tg} {nb : Nat} {ev : Value} {D : DM E8} {T : TM E8} (h : Half B w b g g w nb ev D T) (hS : Small 100000 D) (hnm : ∀ x ∈ D.L, x.1.length ≤ 140737488351232) (n : Nm) (hn : n.length ≤ 140737488351232) :
    Calls Tryz.prog 59 #[.pointer (some ⟨b, 0, none⟩), txt n] w fun e w' => e = .returned (.bool (hasL n D.L)) ∧ Hid (∃ g' nb' ev' T', Half B w' b g' g w nb' ev' (delD D n) T') := by
  cases hh : hasL n D.L with
  | true => rw [← hh]; exact del_has h hS hnm n hn hh
  | false => rw [← hh]; exact del_not h hS hnm n hn hh

end Go.Proofs.YtcbncdigejjcpaaGreatDoor.Dc.DE
