/- The program's dict: Clone. -/
import Derived.Test.YtphegggekcjenaaDoorDIClone
import Derived.Deep.RegionHeld3
namespace Go.Proofs.YtphegggekcjenaaDoor.DI
open Go.RowKit

set_option maxHeartbeats 4000000 in
set_option maxRecDepth 100000 in
/-- Clone -/
theorem clone_any {B : Nat} {w : World} {g : Tg} {b nb : Nat} {ev : Value} {T : TM Int} {many : Nat} (h : Lies B w g b nb ev T many) (hF : Fit T) (hB : B ≤ w.heap.size) :
    Calls Tryd.prog 20 #[.pointer (some ⟨b, 0, none⟩)] w fun x w' => ∃ cb, x = .returned (.pointer (some ⟨cb, 0, none⟩)) ∧ Hid (∃ gC nb' ev', Lies B w' gC cb nb' ev' T many ∧ (∀ k, gC k ≠ none → w.heap.size ≤ k) ∧ Below w.heap.size w w') := by
  have HN : Hid (∀ W, Below w.heap.size w W → Calls Tryd.prog 38 #[.slice (some ⟨nb, 0, none⟩) T.nw.length T.nw.length] W fun x w' => ∃ cb, x = .returned (.slice (some ⟨cb, 0, none⟩) T.nw.length T.nw.length) ∧ Hid (∃ gC, Fresh W.heap.size w' gC false cb T.nw ∧ Below W.heap.size W w')) := fun W hb => by
    have hL := h.below hb
    exact clone_tab (e' := false) hL.nw (fun k hk => (hL.lt k hk).1) hF.nN hF.rN
  have HL : Hid (∀ W, Below w.heap.size w W → Calls Tryd.prog 38 #[ev] W fun x w' => ∃ p c, x = .returned (.slice p T.el.length c) ∧ Hid (∃ gC, ElIs w' gC (.slice p T.el.length c) T.el ∧ (∀ k, gC k ≠ none → W.heap.size ≤ k ∧ k < w'.heap.size) ∧ Below W.heap.size W w')) := fun W hb => by
    have hL := h.below hb
    exact clone_el hL.el (fun k hk => (hL.lt k hk).1) hF.eN hF.rE
  have HH := hid h
  obtain ⟨c0, c1, c2, c3⟩ := h.cells
  obtain ⟨p, c, hev⟩ : ∃ p c, ev = .slice p T.el.length c := by
    rcases h.el with ⟨rfl, e⟩ | ⟨eb, rfl, _⟩
    · exact ⟨none, 0, by rw [e]; rfl⟩
    · exact ⟨_, _, rfl⟩
  subst hev
  have HB0 := hid (Below.refl w.heap.size w).drew
  clear h hF
  go_enter Tryd.func20, Tryd.ntmps20
  go_wp2_with fail
  go_region_held3 (fun w' => w'.cell? ⟨b, 0, none⟩ = some (.slice (some ⟨nb, 0, none⟩) T.nw.length T.nw.length) ∧ w'.cell? ⟨b, 1, none⟩ = some (.slice p T.el.length c) ∧ w'.cell? ⟨b, 2, none⟩ = some (.int .i64 T.tk) ∧ w'.cell? ⟨b, 3, none⟩ = some (.int .i64 many))
    (first | exact ⟨y0, y1, y2, y3⟩ | exact ⟨z0, z1, z2, z3⟩ | go_keep)
    (first
      | (go_at_call 38; (with_reducible refine (HN.out _ HB0.out).mono ?_); rintro e wN ⟨cN, rfl, hN⟩; have HBN := hid (show Below w.heap.size w wN from by obtain ⟨_, _, hb⟩ := hN.out; exact HB0.out.trans (hb.mono HB0.out.size)); obtain ⟨y0, y1, y2, y3⟩ := (HH.out.below HBN.out).cells)
      | (go_at_call 38; (with_reducible refine (HL.out _ HBN.out).mono ?_); rintro e wE ⟨pE, cE, rfl, hE⟩; have HBE := hid (show Below w.heap.size w wE from by obtain ⟨_, _, _, hb⟩ := hE.out; exact HBN.out.trans (hb.mono HBN.out.size)); obtain ⟨z0, z1, z2, z3⟩ := (HH.out.below HBE.out).cells))
  all_goals go_wp2_with fail
  all_goals go_ret
  all_goals
    refine ⟨_, rfl, ?_⟩
    obtain ⟨g1, hF1, hb1⟩ := hN.out
    obtain ⟨g2, hE2, hl2, hb2⟩ := hE.out
    have hw : w.drew.heap.size = w.heap.size := rfl
    rw [hw] at hF1 hb1
    have hT1 : TabIs wE g1 false cN T.nw := hF1.tab.turn (fun k e => ⟨e, hb2.block k (hF1.lt k (by rw [e]; simp)).2⟩) (fun k i e => ⟨e, hb2.block k (hF1.lt k (by rw [e]; simp)).2⟩)
    have hs1 := hb1.size
    have hs2 := hb2.size
    rw [hw] at hs1
    obtain ⟨hL, hm⟩ := cloned (B := B) (w' := wE.alloc (.cells (headC cN (.slice pE T.el.length cE) T many) 68)) (m := w.heap.size) (many := many) hT1 hE2 (fun k hk => by have := hF1.lt k hk; omega) (fun k hk => by have := hl2 k hk; omega) (fun k hk => by
      cases e : g2 k with
      | none => rfl
      | some t =>
        have := hF1.lt k hk
        have := hl2 k (by rw [e]; simp)
        omega) hB rfl
    refine ⟨_, _, _, hL, fun k hk => ?_, HBE.out.trans ((below_alloc wE _).mono HBE.out.size)⟩
    rcases hm k hk with h | h
    · exact h
    · omega

end Go.Proofs.YtphegggekcjenaaDoor.DI
