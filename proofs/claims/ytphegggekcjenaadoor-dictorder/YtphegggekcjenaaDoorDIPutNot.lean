/- The program's dict: Put. -/
import Derived.Test.YtphegggekcjenaaDoorDIPutHas
namespace Go.Proofs.YtphegggekcjenaaDoor.DI
open Go.RowKit

set_option maxHeartbeats 4000000 in
set_option maxRecDepth 100000 in
/-- Put: the name is new -/
theorem put_not {B : Nat} {w : World} {b : Nat} {g : Tg} {nb : Nat} {ev : Value} {D : DM Int} {T : TM Int} (h : Half B w b g g w nb ev D T) (hS : Small 100000 D) (hnm : ∀ x ∈ D.L, x.1.length ≤ 140737488351232) (n : Nm) (v : Int) (hn : n.length ≤ 140737488351232) (hyes : hasL n D.L = false) :
    Calls Tryd.prog 22 #[.pointer (some ⟨b, 0, none⟩), txt n, (.int .i64 v)] w fun e w' => e = .returned (.bool (hasL n D.L)) ∧ Hid (∃ g' nb' ev' T', Half B w' b g' g w nb' ev' (putD D n v) T') := by
  have HS := hid (h.step hS hnm)
  have HS1 := hid (hS.step)
  have HSm := hid ((Small.put (hS.step) n v).mono (show 100001 ≤ 200000 by omega))
  show Calls Tryd.prog 22 _ w fun e w' => e = .returned (.bool (hasL n (stepD D).L)) ∧ Hid (∃ g' nb' ev' T', Half B w' b g' g w nb' ev' (grow ⟨put1 n v false (stepD D).L, (stepD D).rooms, (stepD D).left⟩) T')
  have HSm : Hid (Small 200000 (DM.mk (put1 n v false (stepD D).L) (stepD D).rooms (stepD D).left)) := by
    have h1 := HS1.out
    have h2 := put1_len n v false (stepD D).L
    exact ⟨by have := h1.len; simp only; omega, by have := h1.rooms; simp only; omega, by have := h1.left; simp only; omega⟩
  have HYes : Hid (hasL n (stepD D).L = false) := hyes
  clear hyes
  generalize stepD D = D1 at *
  clear h hS hnm
  go_enter Tryd.func22, Tryd.ntmps22
  go_wp2_with fail
  refine HS.out.mono ?_; rintro e w1 ⟨rfl, hh⟩
  obtain ⟨g1, ev1, T1, h1⟩ := hh.out
  clear hh HS
  have hlen := HS1.out.len
  have hrooms := HS1.out.rooms
  have HR1 := hid h1.good.rooms
  rcases find_cases h1.lies h1.good h1.env (Fit.of h1.good HS1.out) n hn with ⟨e, tb, l, i, k, s, hf⟩ | ⟨hno, q, hf⟩
  · obtain ⟨_, _, _, _, _, _, hhas, _⟩ := s.found h1.good HS1.out
    rw [HYes.out] at hhas; cases hhas
  · have HF := hid hf
    have H1 := hid h1
    have HNo := hid hno
    clear hf h1 hno
    go_wp2_with fail
    refine HF.out.mono ?_; rintro e w2 ⟨rfl, hb⟩
    have h2 := H1.out.below hb.out
    have hFt := Fit.of h2.good HS1.out
    have HA := hid (add_any h2.lies.nw h2.lies.lt h2.env hFt.n0 hFt.nN hFt.rN n v hn)
    obtain ⟨c0, c1, _, c3⟩ := h2.lies.cells
    have H2 := hid h2
    clear h2 hFt
    go_wp2_with fail
    refine HA.out.mono ?_; rintro e w3 ⟨rfl, hh⟩
    obtain ⟨g3, ht3, hu3⟩ := hh.out
    obtain ⟨hL3, hX⟩ := H2.out.add v HNo.out ht3 hu3
    have HX := hid hX
    obtain ⟨d0, d1, _, d3⟩ := hL3.cells
    rw [show (TM.mk (add1 sumN T1.nw (n, v)) T1.el T1.tk).nw.length = T1.nw.length from add1_len _ _ _] at d0
    have f3 := hL3.frozen 3
    have HRm := hid hX.good.rooms
    have HNw := hid (put_len_not HNo.out v)
    clear hh hL3 hX ht3 hu3 HA
    generalize hN : T1.nw.length = N at *
    generalize hM : D1.L.length = M at *
    have hNz : (N : Int) ≤ 200004 := by have := HR1.out; omega
    have hMz : (M : Int) ≤ 100000 := by omega
    rcases HX.out.ev with ⟨rfl, he⟩ | ⟨eb, en, ec, rfl, hne⟩
    · have k1 := eq_none
      by_cases hgt : N < M + 1
      · have hgz : (N : Int) < ((M : Int) + 1) := by omega
        have HG := hid (HX.out.grows HSm.out (by have := HR1.out; simp only; rw [HNw.out]; omega) (2 * (N : Int)) (by have := HR1.out; simp only; omega))
        clear hgt hlen hrooms
        go_wp2_with fail
        refine HG.out.mono ?_; rintro e w9 ⟨rfl, hh9⟩
        go_wp2_with fail
        go_ret
        exact ⟨by rw [HNo.out]; rfl, hh9⟩
      · have hgz : ¬ (N : Int) < ((M : Int) + 1) := by omega
        have HG := hid (HX.out.stays (fun e => hgt (by have := e.2; have := HR1.out; simp only at *; rw [HNw.out] at *; omega)))
        clear hgt hlen hrooms
        go_wp2_with fail
        go_ret
        exact ⟨by rw [HNo.out]; rfl, HG⟩
    · have k1 := eq_some ⟨eb, 0, none⟩ en ec
      have HG := hid (HX.out.stays (fun e => hne e.1))
      clear hlen hrooms
      go_wp2_with fail
      go_ret
      exact ⟨by rw [HNo.out]; rfl, HG⟩

end Go.Proofs.YtphegggekcjenaaDoor.DI
