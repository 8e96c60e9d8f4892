/- KS2. -/
import Derived.Deep.RegionHeld3
import Derived.Test.YtcbncdigejjcpaaGreatDoorM32
namespace Go.Proofs.YtcbncdigejjcpaaGreatDoor
open Go.RowKit

/-- a row that is laid here -/
theorem rd_lit (w : World) (l : Row) : Rd (w.alloc (.cells (l.map txt).toArray 9)) (some ⟨w.heap.size, 0, none⟩) l.length l :=
  ⟨fun _ => ⟨w.heap.size, 0, rfl, fun i hi => by rw [cell_of_row _ _ _ _ _ _ (heap_alloc_new w _)]; simp [hi]⟩, (fun h => by cases h), Nat.le_refl _⟩
set_option maxHeartbeats 1000000 in
set_option maxRecDepth 100000 in
/-- sets.With -/
theorem with_any (p : Option Addr) (c : Nat) (l : Row) (s : Nm) (w : World) (h : Rd w p c l) (hl : l.length ≤ 1000000) (hr : Ris l) : TellsOwn 260 #[.slice p l.length c, txt s] w (insAll l [s]) := by
  have hb := below_alloc w (.cells #[txt s] 9)
  have HU := hid (union_any p c l (some ⟨w.heap.size, 0, none⟩) 1 [s] (w.alloc (.cells #[txt s] 9)) (h.below hb) (rd_lit w [s]) (by omega) (by simp) hr (List.pairwise_singleton _ _))
  have HB := hid hb
  generalize insAll l [s] = L at *
  generalize l.length = n at *
  clear h hr hb
  go_enter Tryz.func260, Tryz.ntmps260
  go_wp2_with fail
  refine HU.out.mono ?_; rintro e w1 ⟨q, d, rfl, hh⟩
  go_wp2_with fail
  go_ret
  refine ⟨q, d, rfl, hh.out.1, fun hne => ?_, HB.out.trans (hh.out.2.2.mono HB.out.size)⟩
  obtain ⟨g, o, h1, h2, h3⟩ := hh.out.2.1 hne
  exact ⟨g, o, h1, by have := HB.out.size; omega, h3⟩
set_option maxHeartbeats 1000000 in
set_option maxRecDepth 100000 in
/-- sets.Without -/
theorem without_any (p : Option Addr) (c : Nat) (l : Row) (s : Nm) (w : World) (h : Rd w p c l) (hl : l.length ≤ 1000000) (hr : Ris l) : TellsOwn 144 #[.slice p l.length c, txt s] w (less l [s]) := by
  have hb := below_alloc w (.cells #[txt s] 9)
  have HU := hid (less_any p c l (some ⟨w.heap.size, 0, none⟩) 1 [s] (w.alloc (.cells #[txt s] 9)) (h.below hb) (rd_lit w [s]) (by omega) (by simp) hr (List.pairwise_singleton _ _))
  have HB := hid hb
  generalize less l [s] = L at *
  generalize l.length = n at *
  clear h hr hb
  go_enter Tryz.func144, Tryz.ntmps144
  go_wp2_with fail
  refine HU.out.mono ?_; rintro e w1 ⟨q, d, rfl, hh⟩
  go_wp2_with fail
  go_ret
  refine ⟨q, d, rfl, hh.out.1, fun hne => ?_, HB.out.trans (hh.out.2.2.mono HB.out.size)⟩
  obtain ⟨g, o, h1, h2, h3⟩ := hh.out.2.1 hne
  exact ⟨g, o, h1, by have := HB.out.size; omega, h3⟩
/-- a row that a call told is put into the map -/
theorem SpC.put_row {B : Nat} {w w1 : World} {b d mb : Nat} {O A Od : Nat → Prop} {D : Dc.DM E8} {f : Int → Row} {room mem now soon : Int} (h : SpC B w b d mb O A Od D f room mem now soon) {n : Int} (hn : In64 n) {q : Option Addr} {e : Nat} {l : Row}
    (hr : Rd w1 q e l) (hw : Lw w.heap.size w1 q l) (hb : Below w.heap.size w w1) : ∃ w' A', (Instr.mapUpdate 64 (.map (some mb)) (.int .i64 n) (.slice q l.length e)).run Tryz.prog w1 = .ok () w' ∧ SpC B w' b d mb O A' Od D (updF f n l) room mem now soon ∧ Stp w w' O O A A' := by
  have h1 := h.below hb
  have hO : O mb := (h.own mb).2 (.inr (.inl rfl))
  have hnO : ∀ k, w.heap.size ≤ k → ¬ O k := fun k hk ho => by have := (h.lt k (h.sub k ho)).2; omega
  have hrw : Rw (fun k => (A k ∨ (w.heap.size ≤ k ∧ k < w1.heap.size)) ∧ ¬ O k) w1 (.slice q l.length e) l := by
    refine ⟨q, e, rfl, hr, fun hne a ha => ?_⟩
    obtain ⟨g, o, h2, h3, h4⟩ := hw hne
    rw [ha] at h2
    injection h2 with h2
    obtain ⟨⟨v, hv⟩, _⟩ := h4 0 (List.length_pos_iff.2 hne)
    rw [h2]
    exact ⟨.inr ⟨h3, block_lt_of_cell hv⟩, hnO g h3⟩
  obtain ⟨w', hrun, hm, ho⟩ := (h1.map.keep (Q := fun k => (A k ∨ (w.heap.size ≤ k ∧ k < w1.heap.size)) ∧ ¬ O k) (Keep.refl _ _) (fun k hk => ⟨.inl hk.1, hk.2⟩) rfl).store (fun hP => hP.2 hO) hn _ l hrw
  refine ⟨w', _, hrun, h1.mapd _ hm ho (fun k hk => ⟨by have := h.blt; omega, hk.2⟩), ?_⟩
  refine ⟨?_, fun k hk => .inl hk, fun k hk => ?_⟩
  · exact (Keep.of_below hb).trans ⟨ho.os, ho.tape, ho.output, Nat.le_of_eq ho.size.symm, fun k _ hk => ho.block k (fun e => hk (e ▸ hO))⟩
  · exact hk.imp id (·.1)
set_option maxHeartbeats 2000000 in
set_option maxRecDepth 100000 in
/-- enter -/
theorem kenter_any {B : Nat} {w : World} {b d mb : Nat} {O A Od : Nat → Prop} {D : Dc.DM E8} {f : Int → Row} {room mem now soon : Int} (h : SpC B w b d mb O A Od D f room mem now soon) (k : Nm) (hk : k.length ≤ 140737488351232) (hl : (f (slotOf k)).length ≤ 1000000) (hr : Ris (f (slotOf k))) :
    Calls Tryz.prog 227 #[ptr b, txt k] w fun e w' => e = .returned (.tuple #[]) ∧ Hid (∃ A', SpC B w' b d mb O A' Od D (updF f (slotOf k) (insAll (f (slotOf k)) [k])) room mem now soon ∧ Stp w w' O O A A') := by
  have hsl : slotOf k < 16384 := Nat.mod_lt _ (by decide)
  have hn : In64 (slotOf k : Int) := by constructor <;> omega
  have HN := hid hn
  have HO := hid (of_any k w h.tab (by have := h.env.lt; have := h.env.size; omega) (by omega))
  have H := hid h
  have HL := hid hl
  have HR := hid hr
  obtain ⟨n, hnn⟩ : ∃ n : Int, n = (slotOf k : Int) := ⟨_, rfl⟩
  rw [← hnn] at HN HO HL HR ⊢
  clear h hn hl hr hk hsl hnn
  go_enter Tryz.func227, Tryz.ntmps227
  go_wp2_with fail
  refine HO.out.mono ?_; rintro e w1 ⟨rfl, hb⟩
  have h1 := H.out.below hb.out.drew
  have HS1 := hid (Stp.below hb.out.drew O A)
  obtain ⟨a0, a1, a2, a3, a4, a5⟩ := h1.facts
  obtain ⟨p, c, hrd, -, hlk⟩ := h1.map.look2 HN.out
  have hlk1 := hlk w1.drew rfl
  have hlk0 := hlk w1 rfl
  have HW := hid (with_any p c (f n) k w1.drew hrd HL.out HR.out)
  have HP : Hid (∀ w2 q e, Rd w2 q e (insAll (f n) [k]) → Lw w1.drew.heap.size w2 q (insAll (f n) [k]) → Below w1.drew.heap.size w1.drew w2 → ∃ w' A', (Instr.mapUpdate 64 (.map (some mb)) (.int .i64 n) (.slice q (insAll (f n) [k]).length e)).run Tryz.prog w2 = .ok () w' ∧ SpC B w' b d mb O A' Od D (updF f n (insAll (f n) [k])) room mem now soon ∧ Stp w1.drew w' O O A A') := fun w2 q e r1 r2 r3 => h1.put_row HN.out r1 r2 r3
  have H1 := hid h1
  clear hb h1 hrd hlk
  go_wp2_with fail
  go_region_law (first
    | (go_simp; go_at_call 260; refine HW.out.mono ?_; rintro e w2 ⟨q, d2, rfl, hh⟩; obtain ⟨w3, A3, hrun, hsp, hst⟩ := HP.out w2 q d2 hh.out.1 hh.out.2.1 hh.out.2.2; have HE := hid (And.intro hsp (HS1.out.trans hst)); have e5 := (H1.out.below hh.out.2.2).facts.2.2.2.2.2; clear hh hsp hst))
  all_goals go_end0
  all_goals exact ⟨rfl, A3, HE.out⟩
theorem updF_twice (f : Int → Row) (n : Int) (l m : Row) : updF (updF f n l) n m = updF f n m := by
  funext x
  unfold updF
  split <;> rfl
theorem SpC.del_row {B : Nat} {w : World} {b d mb : Nat} {O A Od : Nat → Prop} {D : Dc.DM E8} {f : Int → Row} {room mem now soon : Int} (h : SpC B w b d mb O A Od D f room mem now soon) {n : Int} (hn : In64 n) (ty : TypeId) :
    ∃ w', (Builtin.delete_ #[64, 3] ty #[.map (some mb), .int .i64 n]).run Tryz.prog w = .ok (.tuple #[]) w' ∧ SpC B w' b d mb O (fun k => A k ∨ False) Od D (updF f n []) room mem now soon ∧ Stp w w' O O A (fun k => A k ∨ False) := by
  have hO : O mb := (h.own mb).2 (.inr (.inl rfl))
  obtain ⟨w', hrun, hm, ho⟩ := (h.map.keep (Q := fun k => (A k ∨ False) ∧ ¬ O k) (Keep.refl _ _) (fun k hk => ⟨.inl hk.1, hk.2⟩) rfl).drop (fun hP => hP.2 hO) hn ty
  refine ⟨w', hrun, h.mapd (fun _ => False) hm ho (fun k hk => hk.elim), ⟨ho.os, ho.tape, ho.output, Nat.le_of_eq ho.size.symm, fun k _ hk => ho.block k (fun e => hk (e ▸ hO))⟩, fun k hk => .inl hk, fun k hk => ?_⟩
  rcases hk with hk | hk
  · exact .inl hk
  · exact hk.elim
set_option maxHeartbeats 2000000 in
set_option maxRecDepth 100000 in
/-- leave -/
theorem kleave_any {B : Nat} {w : World} {b d mb : Nat} {O A Od : Nat → Prop} {D : Dc.DM E8} {f : Int → Row} {room mem now soon : Int} (h : SpC B w b d mb O A Od D f room mem now soon) (k : Nm) (hk : k.length ≤ 140737488351232) (hl : (f (slotOf k)).length ≤ 1000000) (hr : Ris (f (slotOf k))) :
    Calls Tryz.prog 60 #[ptr b, txt k] w fun e w' => e = .returned (.tuple #[]) ∧ Hid (∃ A', SpC B w' b d mb O A' Od D (updF f (slotOf k) (less (f (slotOf k)) [k])) room mem now soon ∧ Stp w w' O O A A') := by
  have hsl : slotOf k < 16384 := Nat.mod_lt _ (by decide)
  have hn : In64 (slotOf k : Int) := by constructor <;> omega
  have HN := hid hn
  have HO := hid (of_any k w h.tab (by have := h.env.lt; have := h.env.size; omega) (by omega))
  have H := hid h
  have HL := hid hl
  have HR := hid hr
  obtain ⟨n, hnn⟩ : ∃ n : Int, n = (slotOf k : Int) := ⟨_, rfl⟩
  rw [← hnn] at HN HO HL HR ⊢
  have HWo := hid (fun p c (W : World) (h : Rd W p c (f n)) => without_any p c (f n) k W h HL.out HR.out)
  generalize less (f n) [k] = l' at *
  clear h hn hl hr hk hsl hnn
  go_enter Tryz.func60, Tryz.ntmps60
  go_wp2_with fail
  refine HO.out.mono ?_; rintro e w1 ⟨rfl, hb⟩
  have h1 := H.out.below hb.out.drew
  have HS1 := hid (Stp.below hb.out.drew O A)
  obtain ⟨a0, a1, a2, a3, a4, a5⟩ := h1.facts
  obtain ⟨p, c, hrd, -, hlk⟩ := h1.map.look2 HN.out
  have hlk1 := hlk w1.drew rfl
  have hlk0 := hlk w1 rfl
  have HW := hid (HWo.out p c w1.drew hrd)
  have HP : Hid (∀ w2 q e, Rd w2 q e l' → Lw w1.drew.heap.size w2 q l' → Below w1.drew.heap.size w1.drew w2 → ∃ w' A', (Instr.mapUpdate 64 (.map (some mb)) (.int .i64 n) (.slice q l'.length e)).run Tryz.prog w2 = .ok () w' ∧ SpC B w' b d mb O A' Od D (updF f n l') room mem now soon ∧ Stp w1.drew w' O O A A') := fun w2 q e r1 r2 r3 => h1.put_row HN.out r1 r2 r3
  have H1 := hid h1
  clear hb h1 hrd hlk
  go_wp2_with fail
  go_region_law (first
    | (go_simp; go_at_call 144; refine HW.out.mono ?_; rintro e w2 ⟨q, d2, rfl, hh⟩; obtain ⟨w3, A3, hrun, hsp, hst⟩ := HP.out w2 q d2 hh.out.1 hh.out.2.1 hh.out.2.2; have HE := hid (And.intro hsp (HS1.out.trans hst)); have e5 := (H1.out.below hh.out.2.2).facts.2.2.2.2.2; clear hh hsp hst))
  all_goals
    clear hlk1 hlk0 e5 a0 a1 a2 a3 a4 a5 hrun
    obtain ⟨b0, b1, b2, b3, b4, b5⟩ := HE.out.1.facts
    obtain ⟨p3, c3, hrd3, -, hlk⟩ := HE.out.1.map.look2 HN.out
    rw [updF_same] at hlk
    have hlk3 := hlk w3 rfl
    clear hrd3 hlk
    by_cases hz : l' = []
    · subst hz
      obtain ⟨w4, hdel, hsp, hst⟩ := HE.out.1.del_row HN.out 0
      have HE2 := hid (And.intro hsp (HE.out.2.trans hst))
      clear hsp hst
      go_wp2_with fail
      go_end0
      refine ⟨rfl, _, ?_, HE2.out.2⟩
      have := HE2.out.1
      rw [updF_twice] at this
      exact this
    · have hz2 : (l'.length : Int) ≠ 0 := by
        have := List.length_pos_iff.2 hz
        omega
      have hz3 : ((l'.length : Int) == 0) = false := by rw [beq_eq_false_iff_ne]; exact hz2
      generalize l'.length = z at *
      have hz4 : ¬ z = 0 := by omega
      clear hz
      go_wp2_with fail
      go_end0
      exact ⟨rfl, A3, HE.out⟩

end Go.Proofs.YtcbncdigejjcpaaGreatDoor
