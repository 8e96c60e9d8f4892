/- The program's dict: Put. -/
import Derived.Test.YtphegggekcjenaaDoorDIHalf
namespace Go.Proofs.YtphegggekcjenaaDoor.DI
open Go.RowKit

/-- a value is another one -/
theorem Half.put {B : Nat} {w : World} {b : Nat} {g g0 : Tg} {w0 : World} {nb : Nat} {ev : Value} {D : DM Int} {T : TM Int} (h : Half B w b g g0 w0 nb ev D T) {n : Nm} {e : Bool} {tb : Nat} {l : Tb Int} {i k : Nat} (s : Spot w g nb ev T n e tb l i k) (v v0 : Int) (gr c : Nat) (hu : w.cell? ⟨tb, i, none⟩ = some (.slice (some ⟨gr, 0, none⟩) (l[i]'s.hi).length c)) (hR : Room w (.slice (some ⟨gr, 0, none⟩) (l[i]'s.hi).length c) (l[i]'s.hi))
    (hk : k < (l[i]'s.hi).length) (he : l[i]'s.hi = (l[i]'s.hi).take k ++ (n, v0) :: (l[i]'s.hi).drop (k + 1)) : ∃ T', Half B (w.setCell ⟨gr, k * 2 + 1, none⟩ (.int .i64 v)) b g g0 w0 nb ev ⟨put1 n v false D.L, D.rooms, D.left⟩ T' := by
  have hkl : ((l[i]'s.hi).take k).length = k := by rw [List.length_take]; omega
  have hR' := hR.put _ _ n v0 v he
  rw [hkl] at hR'
  obtain ⟨ht, hup⟩ := s.tab.inside (fun j hj => (h.lies.lt j hj).1) i s.hi _ _ hu hR' rfl rfl rfl (by simp) (fun j _ hj => heap_setCell_other _ _ _ _ (fun e => hj (by rw [e]; rfl)))
  have hL := s.turned h.lies h.env.size _ ht hup
  have hG := s.good_put h.good he v
  have hhas : hasL n D.L = true := by
    rcases s.is with ⟨_, _, rfl⟩ | ⟨_, _, rfl, _⟩
    · exact (h.good.foundN s.hi he).2.1
    · exact (h.good.foundE s.hi he).2.1
  refine ⟨_, ?_, hG, hup.turn.env h.env h.lies.lt, h.turn.trans hup.turn⟩
  rw [show (DM.mk (put1 n v false D.L) D.rooms D.left).L.length = D.L.length from (put_len_has h.good.srt hhas v).1]
  exact hL
/-- a new name -/
theorem Half.add {B : Nat} {w w' : World} {b : Nat} {g g' g0 : Tg} {w0 : World} {nb : Nat} {ev : Value} {D : DM Int} {T : TM Int} (h : Half B w b g g0 w0 nb ev D T) {n : Nm} (v : Int) (hn : hasL n D.L = false) (ht : TabIs w' g' false nb (add1 sumN T.nw (n, v))) (hup : Upd false g g' w w') :
    Lies B w' g' b nb ev ⟨add1 sumN T.nw (n, v), T.el, T.tk⟩ D.L.length ∧ Half B (w'.setCell ⟨b, 3, none⟩ (.int .i64 ((D.L.length : Int) + 1))) b g' g0 w0 nb ev ⟨put1 n v false D.L, D.rooms, D.left⟩ ⟨add1 sumN T.nw (n, v), T.el, T.tk⟩ := by
  have hL := h.lies.updN hup h.env.size ht (add1_len _ _ _)
  have hi : sumN n % T.nw.length < T.nw.length := Nat.mod_lt _ (by have := h.good.npos; omega)
  have hG := h.good.add hi hn v
  rw [← getD_at _ [] _ hi] at hG
  have hlt := hup.lt h.lies.lt h.env.size
  have ho : ∀ k, k ≠ b → (w'.setCell ⟨b, 3, none⟩ (.int .i64 ((D.L.length : Int) + 1))).heap[k]? = w'.heap[k]? := fun k hk => heap_setCell_other _ _ _ _ hk
  have hT := Turn.head (g := g') (w' := w'.setCell ⟨b, 3, none⟩ (.int .i64 ((D.L.length : Int) + 1))) (b := b) (by rw [hL.tag]; simp) ho (by simp) rfl rfl rfl
  refine ⟨hL, hL.rehead ?_ ho (by simp) rfl hL.el, hG, hT.env (hup.turn.env h.env h.lies.lt) hlt, (h.turn.trans hup.turn).trans hT⟩
  have h1 := heap_setCell_same _ b 3 _ _ (.int .i64 ((D.L.length : Int) + 1)) hL.head
  have h2 : ((put1 n v false D.L).length : Int) = (D.L.length : Int) + 1 := by have := put_len_not hn v; omega
  simpa [headC, h2] using h1
set_option maxHeartbeats 4000000 in
set_option maxRecDepth 100000 in
/-- Put: the name is there -/
theorem put_has {B : Nat} {w : World} {b : Nat} {g : Tg} {nb : Nat} {ev : Value} {D : DM Int} {T : TM Int} (h : Half B w b g g w nb ev D T) (hS : Small 100000 D) (hnm : ∀ x ∈ D.L, x.1.length ≤ 140737488351232) (n : Nm) (v : Int) (hn : n.length ≤ 140737488351232) (hyes : hasL n D.L = true) :
    Calls Tryd.prog 22 #[.pointer (some ⟨b, 0, none⟩), txt n, (.int .i64 v)] w fun e w' => e = .returned (.bool (hasL n D.L)) ∧ Hid (∃ g' nb' ev' T', Half B w' b g' g w nb' ev' (putD D n v) T') := by
  have HS := hid (h.step hS hnm)
  have HS1 := hid (hS.step)
  have HSm := hid ((Small.put (hS.step) n v).mono (show 100001 ≤ 200000 by omega))
  show Calls Tryd.prog 22 _ w fun e w' => e = .returned (.bool (hasL n (stepD D).L)) ∧ Hid (∃ g' nb' ev' T', Half B w' b g' g w nb' ev' (grow ⟨put1 n v false (stepD D).L, (stepD D).rooms, (stepD D).left⟩) T')
  have HSm : Hid (Small 200000 (DM.mk (put1 n v false (stepD D).L) (stepD D).rooms (stepD D).left)) := by
    have h1 := HS1.out
    have h2 := put1_len n v false (stepD D).L
    exact ⟨by have := h1.len; simp only; omega, by have := h1.rooms; simp only; omega, by have := h1.left; simp only; omega⟩
  have HYes : Hid (hasL n (stepD D).L = true) := hyes
  clear hyes
  generalize stepD D = D1 at *
  clear h hS hnm
  go_enter Tryd.func22, Tryd.ntmps22
  go_wp2_with fail
  refine HS.out.mono ?_; rintro e w1 ⟨rfl, hh⟩
  obtain ⟨g1, ev1, T1, h1⟩ := hh.out
  clear hh HS
  have hlen := HS1.out.len
  have hrooms := HS1.out.rooms
  have hR1 := h1.good.rooms
  rcases find_cases h1.lies h1.good h1.env (Fit.of h1.good HS1.out) n hn with ⟨e, tb, l, i, k, s, hf⟩ | ⟨hno, q, hf⟩
  · have HF := hid hf
    have H1 := hid h1
    have HSp := hid s
    clear hf s h1
    go_wp2_with fail
    refine HF.out.mono ?_; rintro e w2 ⟨rfl, hb⟩
    have h2 := H1.out.below hb.out
    have s2 := HSp.out.below H1.out.lies hb.out
    obtain ⟨v0, c, gr, ⟨hk, -⟩, he, hll, hhas, -, hu, hR, -, hgr, x1, xf, -, -⟩ := s2.found h2.good HS1.out
    obtain ⟨T2, hX⟩ := h2.put s2 v v0 gr c hu hR hk he
    have HX := hid hX
    obtain ⟨c0, c1, _, c3⟩ := h2.lies.cells
    have hgb : ¬ gr = b := fun e => by
      rw [e] at hu
      have := h2.lies.head
      rcases hR.2 with ⟨e', _⟩ | ⟨g', cap, cur, e', _, hg, _⟩
      · cases e'
      · injection e' with e'
        injection e' with e'
        injection e' with e'
        rw [← e', e, this] at hg
        injection hg with hg
        injection hg with _ hg _
        revert hg
        decide
    have hkz : (k : Int) < ((l[i]'s2.hi).length : Int) := by omega
    have HHas := hid hhas
    have HRm := hid hX.good.rooms
    have HNw := hid (put_len_has h2.good.srt hhas v).1
    generalize hm : (l[i]'s2.hi).length = m at hkz hu hll
    have hml : (m : Int) ≤ 100000 := by omega
    clear h2 s2 he hk hR hX hhas hm
    generalize hN : T1.nw.length = N at *
    generalize hM : D1.L.length = M at *
    have hNz : (N : Int) ≤ 200004 := by omega
    have hMz : (M : Int) ≤ 100000 := by omega
    rcases HX.out.ev with ⟨rfl, he⟩ | ⟨eb, en, ec, rfl, hne⟩
    · have k1 := eq_none
      by_cases hgt : N < M
      · have hgz : (N : Int) < (M : Int) := by omega
        have HG := hid (HX.out.grows HSm.out (by simp only; rw [HNw.out]; omega) (2 * (N : Int)) (by simp only; omega))
        clear hgt hlen hrooms hR1
        go_wp2_with fail
        refine HG.out.mono ?_; rintro e w9 ⟨rfl, hh9⟩
        go_wp2_with fail
        go_ret
        exact ⟨by rw [HHas.out]; rfl, hh9⟩
      · have hgz : ¬ (N : Int) < (M : Int) := by omega
        have HG := hid (HX.out.stays (fun e => hgt (by have := e.2; simp only at this; rw [HNw.out] at this; omega)))
        clear hgt hlen hrooms hR1
        go_wp2_with fail
        go_ret
        exact ⟨by rw [HHas.out]; rfl, HG⟩
    · have k1 := eq_some ⟨eb, 0, none⟩ en ec
      have HG := hid (HX.out.stays (fun e => hne e.1))
      clear hlen hrooms hR1
      go_wp2_with fail
      go_ret
      exact ⟨by rw [HHas.out]; rfl, HG⟩
  · rw [HYes.out] at hno; cases hno

end Go.Proofs.YtphegggekcjenaaDoor.DI
