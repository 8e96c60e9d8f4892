/- DEPutHas, DEPutNot, DEPut. -/
import Derived.Test.YtcbncdigejjcpaaGreatDoorM26
namespace Go.Proofs.YtcbncdigejjcpaaGreatDoor.Dc.DE
open Go.RowKit

/-- a value is another one -/
theorem Half.put {B : Nat} {w : World} {b : Nat} {g g0 : Tg} {w0 : World} {nb : Nat} {ev : Value} {D : DM E8} {T : TM E8} (h : Half B w b g g0 w0 nb ev D T) {n : Nm} {e : Bool} {tb : Nat} {l : Tb E8} {i k : Nat} (s : Spot w g nb ev T n e tb l i k) (v v0 : E8) (gr c : Nat) (hu : w.cell? ⟨tb, i, none⟩ = some (.slice (some ⟨gr, 0, none⟩) (l[i]'s.hi).length c)) (hR : Room w (.slice (some ⟨gr, 0, none⟩) (l[i]'s.hi).length c) (l[i]'s.hi))
    (hk : k < (l[i]'s.hi).length) (he : l[i]'s.hi = (l[i]'s.hi).take k ++ (n, v0) :: (l[i]'s.hi).drop (k + 1)) : ∃ T', Half B (set8 w gr (k * 9) v) b g g0 w0 nb ev ⟨put1 n v false D.L, D.rooms, D.left⟩ T' := by
  have hkl : ((l[i]'s.hi).take k).length = k := by rw [List.length_take]; omega
  have hR' := hR.put _ _ n v0 v he
  rw [hkl] at hR'
  obtain ⟨f1, f2, f3, f4, f5⟩ := set8_facts w gr (k * 9) v
  generalize set8 w gr (k * 9) v = W at *
  obtain ⟨ht, hup⟩ := s.tab.inside (fun j hj => (h.lies.lt j hj).1) i s.hi _ _ hu hR' f1 f2 f3 (by omega) (fun j _ hj => f5 _ (fun e => hj (by rw [e]; rfl)))
  have hL := s.turned h.lies h.env.size _ ht hup
  have hG := s.good_put h.good he v
  have hhas : hasL n D.L = true := by
    rcases s.is with ⟨_, _, rfl⟩ | ⟨_, _, rfl, _⟩
    · exact (h.good.foundN s.hi he).2.1
    · exact (h.good.foundE s.hi he).2.1
  refine ⟨_, ?_, hG, hup.turn.env h.env h.lies.lt, h.turn.trans hup.turn⟩
  rw [show (DM.mk (put1 n v false D.L) D.rooms D.left).L.length = D.L.length from (put_len_has h.good.srt hhas v).1]
  exact hL
/-- a new name -/
theorem Half.add {B : Nat} {w w' : World} {b : Nat} {g g' g0 : Tg} {w0 : World} {nb : Nat} {ev : Value} {D : DM E8} {T : TM E8} (h : Half B w b g g0 w0 nb ev D T) {n : Nm} (v : E8) (hn : hasL n D.L = false) (ht : TabIs w' g' false nb (add1 sumN T.nw (n, v))) (hup : Upd false g g' w w') :
    Lies B w' g' b nb ev ⟨add1 sumN T.nw (n, v), T.el, T.tk⟩ D.L.length ∧ Half B (w'.setCell ⟨b, 3, none⟩ (.int .i64 ((D.L.length : Int) + 1))) b g' g0 w0 nb ev ⟨put1 n v false D.L, D.rooms, D.left⟩ ⟨add1 sumN T.nw (n, v), T.el, T.tk⟩ := by
  have hL := h.lies.updN hup h.env.size ht (add1_len _ _ _)
  have hi : sumN n % T.nw.length < T.nw.length := Nat.mod_lt _ (by have := h.good.npos; omega)
  have hG := h.good.add hi hn v
  rw [← getD_at _ [] _ hi] at hG
  have hlt := hup.lt h.lies.lt h.env.size
  have ho : ∀ k, k ≠ b → (w'.setCell ⟨b, 3, none⟩ (.int .i64 ((D.L.length : Int) + 1))).heap[k]? = w'.heap[k]? := fun k hk => heap_setCell_other _ _ _ _ hk
  have hT := Turn.head (g := g') (w' := w'.setCell ⟨b, 3, none⟩ (.int .i64 ((D.L.length : Int) + 1))) (b := b) (by rw [hL.tag]; simp) ho (by simp) rfl rfl rfl
  refine ⟨hL, hL.rehead ?_ ho (by simp) rfl hL.el, hG, hT.env (hup.turn.env h.env h.lies.lt) hlt, (h.turn.trans hup.turn).trans hT⟩
  have h1 := heap_setCell_same _ b 3 _ _ (.int .i64 ((D.L.length : Int) + 1)) hL.head
  have h2 : ((put1 n v false D.L).length : Int) = (D.L.length : Int) + 1 := by have := put_len_not hn v; omega
  simpa [headC, h2] using h1
/-- a dict, from an earlier world on -/
theorem Half.from {B : Nat} {w W0 w' : World} {b : Nat} {g g' : Tg} {nb : Nat} {ev : Value} {D : DM E8} {T : TM E8} (h : Half B w' b g' g W0 nb ev D T) (hb : Below w.heap.size w W0) : Half B w' b g' g w nb ev D T := ⟨h.lies, h.good, h.env, (Turn.below hb).trans h.turn⟩
set_option maxHeartbeats 4000000 in
set_option maxRecDepth 100000 in
/-- Put: the name is there -/
theorem put_has {B : Nat} {w : World} {b : Nat} {g : Tg} {nb : Nat} {ev : Value} {D : DM E8} {T : TM E8} (h : Half B w b g g w nb ev D T) (hS : Small 100000 D) (hnm : ∀ x ∈ D.L, x.1.length ≤ 140737488351232) (n : Nm) (v : E8) (hn : n.length ≤ 140737488351232) (hyes : hasL n D.L = true) :
    Calls Tryz.prog 226 #[.pointer (some ⟨b, 0, none⟩), txt n, .agg v.cells] w fun e w' => e = .returned (.bool (hasL n D.L)) ∧ Hid (∃ g' nb' ev' T', Half B w' b g' g w nb' ev' (putD D n v) T') := by
  have hba := below_alloc w (eob v)
  have hgn : g w.heap.size = none := by
    cases e : g w.heap.size with
    | none => rfl
    | some x => have := (h.lies.lt w.heap.size (by rw [e]; simp)).1; omega
  suffices hsuff : Calls Tryz.prog 226 #[.pointer (some ⟨b, 0, none⟩), txt n, .agg v.cells] w fun e w' => e = .returned (.bool (hasL n D.L)) ∧ Hid (∃ g' nb' ev' T', Half B w' b g' g (w.alloc (eob v)) nb' ev' (putD D n v) T') from hsuff.mono (fun e w' ⟨he, hh⟩ => ⟨he, by obtain ⟨g', nb', ev', T', h'⟩ := hh.out; exact ⟨g', nb', ev', T', h'.from hba⟩⟩)
  have h : Half B (w.alloc (eob v)) b g g (w.alloc (eob v)) nb ev D T := ⟨h.lies.below hba, h.good, h.env.below hba h.env.size, Turn.refl g _⟩
  have HPB := hid (ent_new w v)
  have HGN := hid hgn
  have HZ0 : Hid ((w.alloc (eob v)).heap.size = w.heap.size + 1) := by simp [Hid]
  clear hba hgn
  have HS := hid (h.step hS hnm)
  have HS1 := hid (hS.step)
  have HSm := hid ((Small.put (hS.step) n v).mono (show 100001 ≤ 200000 by omega))
  show Calls Tryz.prog 226 _ w fun e w' => e = .returned (.bool (hasL n (stepD D).L)) ∧ Hid (∃ g' nb' ev' T', Half B w' b g' g (w.alloc (eob v)) nb' ev' (grow ⟨put1 n v false (stepD D).L, (stepD D).rooms, (stepD D).left⟩) T')
  have HSm : Hid (Small 200000 (DM.mk (put1 n v false (stepD D).L) (stepD D).rooms (stepD D).left)) := by
    have h1 := HS1.out
    have h2 := put1_len n v false (stepD D).L
    exact ⟨by have := h1.len; simp only; omega, by have := h1.rooms; simp only; omega, by have := h1.left; simp only; omega⟩
  have HYes : Hid (hasL n (stepD D).L = true) := hyes
  clear hyes
  generalize stepD D = D1 at *
  clear h hS hnm
  go_enter Tryz.func226, Tryz.ntmps226
  go_wp2_with fail
  refine HS.out.mono ?_; rintro e w1 ⟨rfl, hh⟩
  obtain ⟨g1, ev1, T1, h1⟩ := hh.out
  clear hh HS
  have hlen := HS1.out.len
  have hrooms := HS1.out.rooms
  have hR1 := h1.good.rooms
  rcases find_cases h1.lies h1.good h1.env (Fit.of h1.good HS1.out) n hn with ⟨e, tb, l, i, k, s, hf⟩ | ⟨hno, q, hf⟩
  · have HF := hid hf
    have H1 := hid h1
    have HSp := hid s
    clear hf s h1
    go_wp2_with fail
    refine HF.out.mono ?_; rintro e w2 ⟨rfl, hb⟩
    have h2 := H1.out.below hb.out
    have HP2 := hid ((h2.turn.keep.block w.heap.size (by have := HZ0.out; omega) HGN.out).trans HPB.out)
    obtain ⟨p0, p1, p2, p3, p4, p5, p6, p7⟩ := ent_facts HP2.out
    have s2 := HSp.out.below H1.out.lies hb.out
    obtain ⟨v0, c, gr, ⟨hk, -⟩, he, hll, hhas, -, hu, hR, -, hgr, ⟨x1, x2, x3, x4, x5, x6, x7, x8⟩, xf, -, -⟩ := s2.found h2.good HS1.out
    obtain ⟨T2, hX0⟩ := h2.put s2 v v0 gr c hu hR hk he
    have hX := hX0.below (Below.refl _ (set8 w2 gr (k * 9) v)).drew
    clear hX0
    have HX := hid hX
    have xf1 := xf (k * 9 + 1)
    have xf2 := xf (k * 9 + 2)
    have xf3 := xf (k * 9 + 3)
    have xf4 := xf (k * 9 + 4)
    have xf5 := xf (k * 9 + 5)
    have xf6 := xf (k * 9 + 6)
    have xf7 := xf (k * 9 + 7)
    have xf8 := xf (k * 9 + 8)
    clear xf
    obtain ⟨c0, c1, _, c3⟩ := h2.lies.cells
    have hgb : ¬ gr = b := fun e => by
      rw [e] at hu
      have := h2.lies.head
      rcases hR.2 with ⟨e', _⟩ | ⟨g', cap, cur, e', _, hg, _⟩
      · cases e'
      · injection e' with e'
        injection e' with e'
        injection e' with e'
        rw [← e', e, this] at hg
        injection hg with hg
        injection hg with _ hg _
        revert hg
        decide
    have hkz : (k : Int) < ((l[i]'s2.hi).length : Int) := by omega
    have HHas := hid hhas
    have HRm := hid hX.good.rooms
    have HNw := hid (put_len_has h2.good.srt hhas v).1
    generalize hm : (l[i]'s2.hi).length = m at hkz hu hll
    have hml : (m : Int) ≤ 100000 := by omega
    clear h2 s2 he hk hR hX hhas hm
    generalize hN : T1.nw.length = N at *
    generalize hM : D1.L.length = M at *
    have hNz : (N : Int) ≤ 200004 := by omega
    have hMz : (M : Int) ≤ 100000 := by omega
    rcases HX.out.ev with ⟨rfl, he⟩ | ⟨eb, en, ec, rfl, hne⟩
    · have k1 := eq_none
      by_cases hgt : N < M
      · have hgz : (N : Int) < (M : Int) := by omega
        have HG := hid (HX.out.grows HSm.out (by simp only; rw [HNw.out]; omega) (2 * (N : Int)) (by simp only; omega))
        clear hgt hlen hrooms hR1
        go_wp2_with fail
        go_region
        all_goals go_wp2_with fail
        all_goals refine HG.out.mono ?_
        all_goals rintro e w9 ⟨rfl, hh9⟩
        all_goals go_wp2_with fail
        all_goals go_ret
        all_goals exact ⟨by rw [HHas.out]; rfl, hh9⟩
      · have hgz : ¬ (N : Int) < (M : Int) := by omega
        have HG := hid (HX.out.stays (fun e => hgt (by have := e.2; simp only at this; rw [HNw.out] at this; omega)))
        clear hgt hlen hrooms hR1
        go_wp2_with fail
        go_region
        all_goals go_wp2_with fail
        all_goals go_ret
        all_goals exact ⟨by rw [HHas.out]; rfl, HG⟩
    · have k1 := eq_some ⟨eb, 0, none⟩ en ec
      have HG := hid (HX.out.stays (fun e => hne e.1))
      clear hlen hrooms hR1
      go_wp2_with fail
      go_region
      all_goals go_wp2_with fail
      all_goals go_ret
      all_goals exact ⟨by rw [HHas.out]; rfl, HG⟩
  · rw [HYes.out] at hno; cases hno

end Go.Proofs.YtcbncdigejjcpaaGreatDoor.Dc.DE

namespace Go.Proofs.YtcbncdigejjcpaaGreatDoor.Dc.DE
open Go.RowKit

set_option maxHeartbeats 4000000 in
set_option maxRecDepth 100000 in
/-- Put: the name is new -/
theorem put_not {B : Nat} {w : World} {b : Nat} {g : Tg} {nb : Nat} {ev : Value} {D : DM E8} {T : TM E8} (h : Half B w b g g w nb ev D T) (hS : Small 100000 D) (hnm : ∀ x ∈ D.L, x.1.length ≤ 140737488351232) (n : Nm) (v : E8) (hn : n.length ≤ 140737488351232) (hyes : hasL n D.L = false) :
    Calls Tryz.prog 226 #[.pointer (some ⟨b, 0, none⟩), txt n, .agg v.cells] w fun e w' => e = .returned (.bool (hasL n D.L)) ∧ Hid (∃ g' nb' ev' T', Half B w' b g' g w nb' ev' (putD D n v) T') := by
  have hba := below_alloc w (eob v)
  have hgn : g w.heap.size = none := by
    cases e : g w.heap.size with
    | none => rfl
    | some x => have := (h.lies.lt w.heap.size (by rw [e]; simp)).1; omega
  suffices hsuff : Calls Tryz.prog 226 #[.pointer (some ⟨b, 0, none⟩), txt n, .agg v.cells] w fun e w' => e = .returned (.bool (hasL n D.L)) ∧ Hid (∃ g' nb' ev' T', Half B w' b g' g (w.alloc (eob v)) nb' ev' (putD D n v) T') from hsuff.mono (fun e w' ⟨he, hh⟩ => ⟨he, by obtain ⟨g', nb', ev', T', h'⟩ := hh.out; exact ⟨g', nb', ev', T', h'.from hba⟩⟩)
  have h : Half B (w.alloc (eob v)) b g g (w.alloc (eob v)) nb ev D T := ⟨h.lies.below hba, h.good, h.env.below hba h.env.size, Turn.refl g _⟩
  have HPB := hid (ent_new w v)
  have HGN := hid hgn
  have HZ0 : Hid ((w.alloc (eob v)).heap.size = w.heap.size + 1) := by simp [Hid]
  clear hba hgn
  have HS := hid (h.step hS hnm)
  have HS1 := hid (hS.step)
  have HSm := hid ((Small.put (hS.step) n v).mono (show 100001 ≤ 200000 by omega))
  show Calls Tryz.prog 226 _ w fun e w' => e = .returned (.bool (hasL n (stepD D).L)) ∧ Hid (∃ g' nb' ev' T', Half B w' b g' g (w.alloc (eob v)) nb' ev' (grow ⟨put1 n v false (stepD D).L, (stepD D).rooms, (stepD D).left⟩) T')
  have HSm : Hid (Small 200000 (DM.mk (put1 n v false (stepD D).L) (stepD D).rooms (stepD D).left)) := by
    have h1 := HS1.out
    have h2 := put1_len n v false (stepD D).L
    exact ⟨by have := h1.len; simp only; omega, by have := h1.rooms; simp only; omega, by have := h1.left; simp only; omega⟩
  have HYes : Hid (hasL n (stepD D).L = false) := hyes
  clear hyes
  generalize stepD D = D1 at *
  clear h hS hnm
  go_enter Tryz.func226, Tryz.ntmps226
  go_wp2_with fail
  refine HS.out.mono ?_; rintro e w1 ⟨rfl, hh⟩
  obtain ⟨g1, ev1, T1, h1⟩ := hh.out
  clear hh HS
  have hlen := HS1.out.len
  have hrooms := HS1.out.rooms
  have HR1 := hid h1.good.rooms
  rcases find_cases h1.lies h1.good h1.env (Fit.of h1.good HS1.out) n hn with ⟨e, tb, l, i, k, s, hf⟩ | ⟨hno, q, hf⟩
  · obtain ⟨_, _, _, _, _, _, hhas, _⟩ := s.found h1.good HS1.out
    rw [HYes.out] at hhas; cases hhas
  · have HF := hid hf
    have H1 := hid h1
    have HNo := hid hno
    clear hf h1 hno
    go_wp2_with fail
    refine HF.out.mono ?_; rintro e w2 ⟨rfl, hb⟩
    have h2 := H1.out.below hb.out.drew
    have HP2 := hid ((h2.turn.keep.block w.heap.size (by have := HZ0.out; omega) HGN.out).trans HPB.out)
    obtain ⟨p0, p1, p2, p3, p4, p5, p6, p7⟩ := ent_facts HP2.out
    have hFt := Fit.of h2.good HS1.out
    have HA := hid (add_any h2.lies.nw h2.lies.lt h2.env hFt.n0 hFt.nN hFt.rN n v hn)
    obtain ⟨c0, c1, _, c3⟩ := h2.lies.cells
    have H2 := hid h2
    clear h2 hFt
    go_wp2_with fail
    go_region_law (go_simp; go_at_call 204; refine HA.out.mono ?_; rintro e w3 ⟨rfl, hh⟩)
    all_goals
      obtain ⟨g3, ht3, hu3⟩ := hh.out
      obtain ⟨hL3, hX⟩ := H2.out.add v HNo.out ht3 hu3
      have HX := hid hX
      obtain ⟨d0, d1, _, d3⟩ := hL3.cells
      rw [show (TM.mk (add1 sumN T1.nw (n, v)) T1.el T1.tk).nw.length = T1.nw.length from add1_len _ _ _] at d0
      have f3 := hL3.frozen 3
      have HRm := hid hX.good.rooms
      have HNw := hid (put_len_not HNo.out v)
      clear hh hL3 hX ht3 hu3 HA
      generalize hN : T1.nw.length = N at *
      generalize hM : D1.L.length = M at *
      have hNz : (N : Int) ≤ 200004 := by have := HR1.out; omega
      have hMz : (M : Int) ≤ 100000 := by omega
      rcases HX.out.ev with ⟨rfl, he⟩ | ⟨eb, en, ec, rfl, hne⟩
      · have k1 := eq_none
        by_cases hgt : N < M + 1
        · have hgz : (N : Int) < ((M : Int) + 1) := by omega
          have HG := hid (HX.out.grows HSm.out (by have := HR1.out; simp only; rw [HNw.out]; omega) (2 * (N : Int)) (by have := HR1.out; simp only; omega))
          clear hgt hlen hrooms
          go_wp2_with fail
          refine HG.out.mono ?_; rintro e w9 ⟨rfl, hh9⟩
          go_wp2_with fail
          go_ret
          exact ⟨by rw [HNo.out]; rfl, hh9⟩
        · have hgz : ¬ (N : Int) < ((M : Int) + 1) := by omega
          have HG := hid (HX.out.stays (fun e => hgt (by have := e.2; have := HR1.out; simp only at *; rw [HNw.out] at *; omega)))
          clear hgt hlen hrooms
          go_wp2_with fail
          go_ret
          exact ⟨by rw [HNo.out]; rfl, HG⟩
      · have k1 := eq_some ⟨eb, 0, none⟩ en ec
        have HG := hid (HX.out.stays (fun e => hne e.1))
        clear hlen hrooms
        go_wp2_with fail
        go_ret
        exact ⟨by rw [HNo.out]; rfl, HG⟩

end Go.Proofs.YtcbncdigejjcpaaGreatDoor.Dc.DE

namespace Go.Proofs.YtcbncdigejjcpaaGreatDoor.Dc.DE
open Go.RowKit

/-- Put -/
theorem put_any {B : Nat} {w : World} {b : Nat} {g : Tg} {nb : Nat} {ev : Value} {D : DM E8} {T : TM E8} (h : Half B w b g g w nb ev D T) (hS : Small 100000 D) (hnm : ∀ x ∈ D.L, x.1.length ≤ 140737488351232) (n : Nm) (v : E8) (hn : n.length ≤ 140737488351232) :
    Calls Tryz.prog 226 #[.pointer (some ⟨b, 0, none⟩), txt n, .agg v.cells] w fun e w' => e = .returned (.bool (hasL n D.L)) ∧ Hid (∃ g' nb' ev' T', Half B w' b g' g w nb' ev' (putD D n v) T') := by
  cases hh : hasL n D.L with
  | true => rw [← hh]; exact put_has h hS hnm n v hn hh
  | false => rw [← hh]; exact put_not h hS hnm n v hn hh

end Go.Proofs.YtcbncdigejjcpaaGreatDoor.Dc.DE
