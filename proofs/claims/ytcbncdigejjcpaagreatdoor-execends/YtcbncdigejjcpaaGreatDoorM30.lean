/- DEDq. -/
import Derived.Test.YtcbncdigejjcpaaGreatDoorM27
import Derived.Test.YtcbncdigejjcpaaGreatDoorM28
import Derived.Test.YtcbncdigejjcpaaGreatDoorM11
namespace Go.Proofs.YtcbncdigejjcpaaGreatDoor.Dc.DE
open Go.RowKit

/-- a dict in block b, its blocks O -/
def Dq (B : Nat) (w : World) (b : Nat) (O : Nat → Prop) (D : DM E8) : Prop :=
  ∃ g nb ev T, (∀ k, O k ↔ g k ≠ none) ∧ Lies B w g b nb ev T D.L.length ∧ Good sumN T D ∧ Env B w ∧ ∀ x ∈ D.L, x.1.length ≤ 140737488351232
theorem dq_turn {B : Nat} {w w' : World} {b : Nat} {O : Nat → Prop} {D : DM E8} (h : Dq B w b O D) (hk : ∀ k, k < B ∨ O k → w'.heap[k]? = w.heap[k]?) (hs : w.heap.size ≤ w'.heap.size) : Dq B w' b O D := by
  obtain ⟨g, nb, ev, T, hO, hL, hG, hE, hn⟩ := h
  exact ⟨g, nb, ev, T, hO, hL.turn (fun k e => hk k (.inr ((hO k).2 e))) hs, hG, hE.turn (fun k e => hk k (.inl e)) hs, hn⟩
theorem dq_base {B : Nat} {w : World} {b : Nat} {O : Nat → Prop} {D : DM E8} (h : Dq B w b O D) : B ≤ w.heap.size := by
  obtain ⟨g, nb, ev, T, hO, hL, hG, hE, hn⟩ := h
  exact hE.size
theorem dq_lt {B : Nat} {w : World} {b : Nat} {O : Nat → Prop} {D : DM E8} (h : Dq B w b O D) : ∀ k, O k → k < w.heap.size := by
  obtain ⟨g, nb, ev, T, hO, hL, hG, hE, hn⟩ := h
  exact fun k hk => (hL.lt k ((hO k).1 hk)).1
/-- behind a call -/
theorem Half.dq {B : Nat} {w w0 : World} {b : Nat} {g g0 : Tg} {nb : Nat} {ev : Value} {D : DM E8} {T : TM E8} (h : Half B w b g g0 w0 nb ev D T) (hn : ∀ x ∈ D.L, x.1.length ≤ 140737488351232) (O : Nat → Prop) (hO : ∀ k, O k ↔ g0 k ≠ none) : ∃ O', Dq B w b O' D ∧ Grew w0 O O' ∧ Keep (Off O) w0 w :=
  ⟨fun k => g k ≠ none, ⟨g, nb, ev, T, fun _ => Iff.rfl, h.lies, h.good, h.env, hn⟩, fun k hk => (h.turn.new k hk).imp (fun e => (hO k).2 e) id, h.turn.keep.mono (fun k hk => by
    cases e : g0 k with
    | none => rfl
    | some t => exact absurd ((hO k).2 (by rw [e]; simp)) hk)⟩
theorem dq_new {B : Nat} (hB0 : 8 < B) (w : World) (hV : Tab w) (hB : B ≤ w.heap.size) : Calls Tryz.prog 25 #[] w fun e w' => ∃ b, e = .returned (ptr b) ∧ Hid (∃ O, Dq B w' b O newD ∧ (∀ k, O k → w.heap.size ≤ k) ∧ Below w.heap.size w w') := by
  refine (new_any w).mono fun e w' ⟨he, hw⟩ => ⟨w.heap.size + 1, he, ?_⟩
  have hw : w' = _ := hw
  have hb : Below w.heap.size w w' := by
    rw [hw]
    exact (below_alloc w _).alloc (by simp) _
  have hE : Env B w' := (Env.mk hV hB0 hB).below hb hB
  refine ⟨fun k => newT w.heap.size k ≠ none, ⟨newT w.heap.size, w.heap.size, .slice none 0 0, ⟨List.replicate 4 [], [], 0⟩, fun _ => Iff.rfl, ?_, Good.new sumN, hE, fun x hx => by cases hx⟩, fun k hk => ?_, hb⟩
  · rw [hw]
    exact new_lies B w hB
  · have hk : newT w.heap.size k ≠ none := hk
    unfold newT at hk
    split at hk
    · omega
    · split at hk
      · omega
      · exact absurd rfl hk
theorem dq_put {B : Nat} (b : Nat) (O : Nat → Prop) (D : DM E8) (n : Nm) (v : E8) (w : World) (h : Dq B w b O D) (hS : Small 100000 D) (hn : n.length ≤ 140737488351232) :
    Calls Tryz.prog 226 #[ptr b, txt n, .agg v.cells] w fun e w' => e = .returned (.bool (hasL n D.L)) ∧ Hid (∃ O', Dq B w' b O' (putD D n v) ∧ Grew w O O' ∧ Keep (Off O) w w') := by
  obtain ⟨g, nb, ev, T, hO, hL, hG, hE, hnm⟩ := h
  refine (put_any ⟨hL, hG, hE, Turn.refl g w⟩ hS hnm n v hn).mono fun e w' ⟨he, hh⟩ => ⟨he, ?_⟩
  obtain ⟨g', nb', ev', T', hH⟩ := hh.out
  refine hH.dq (fun x hx => ?_) O hO
  rw [putD_L] at hx
  rcases (put1_mem n v D.L x).1 hx with rfl | ⟨hx, _⟩
  · exact hn
  · exact hnm x hx
theorem dq_get {B : Nat} (b : Nat) (O : Nat → Prop) (D : DM E8) (n : Nm) (w : World) (h : Dq B w b O D) (hS : Small 100000 D) (hn : n.length ≤ 140737488351232) :
    Calls Tryz.prog 32 #[ptr b, txt n] w fun e w' => e = .returned (.tuple #[.agg ((getL n D.L).getD e80).cells, .bool (getL n D.L).isSome]) ∧ Hid (Below w.heap.size w w') := by
  obtain ⟨g, nb, ev, T, hO, hL, hG, hE, hnm⟩ := h
  exact get_any hL hG hE hS n hn
theorem dq_len {B : Nat} (b : Nat) (O : Nat → Prop) (D : DM E8) (w : World) (h : Dq B w b O D) :
    Calls Tryz.prog 39 #[ptr b] w fun e w' => e = .returned (.int .i64 D.L.length) ∧ Hid (Below w.heap.size w w') := by
  obtain ⟨g, nb, ev, T, hO, hL, hG, hE, hnm⟩ := h
  exact (len_any hL).mono fun e w' ⟨he, hw⟩ => ⟨he, by subst hw; exact Below.refl _ _⟩
theorem dq_names {B : Nat} (b : Nat) (O : Nat → Prop) (D : DM E8) (w : World) (h : Dq B w b O D) (hS : Small 100000 D) :
    Calls Tryz.prog 31 #[ptr b] w fun e w' => ∃ q c, e = .returned (.slice q D.L.length c) ∧ Hid (Tl (fun k => w.heap.size ≤ k) w' (.slice q D.L.length c) (namesL D.L) ∧ Below w.heap.size w w') := by
  obtain ⟨g, nb, ev, T, hO, hL, hG, hE, hnm⟩ := h
  refine (names_run hL (Fit.of hG hS) hG.count.symm hS.len).mono fun e w' ⟨q, c, he, hh⟩ => ⟨some q, c, he, ?_⟩
  have hsr : srtR (upTo T 2) = namesL D.L := by
    refine srtR_eq ?_ ?_
    · have := hG.perm.map (·.1)
      unfold allT at this
      rw [List.map_append] at this
      exact this
    · exact List.pairwise_map.2 hG.srt
  have h1 := hh.out
  rw [hsr] at h1
  exact ⟨h1.1.tl (fun k hk => hk), h1.2⟩

end Go.Proofs.YtcbncdigejjcpaaGreatDoor.Dc.DE
