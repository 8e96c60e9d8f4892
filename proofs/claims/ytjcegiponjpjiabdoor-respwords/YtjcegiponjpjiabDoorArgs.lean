/- Arguments under way: a row of slices of bytes that grows; what a turned parser leaves alone. -/
import Derived.Test.YtjcegiponjpjiabDoorTexts
namespace Go.Proofs.YtjcegiponjpjiabDoor
open Go.RowKit

theorem infoBytes : (Tryd.prog.info? 26).map (fun i => (i.zero, i.size, i.bytes)) = some (some (.slice none 0 0), 1, 24) := by kernel_rfl
theorem At.only {W W' : World} {b : Nat} {v : Value} {e : Int} {q : Option Addr} {s : List UInt8} (h : At W q s) (hP : Pars W b v e) (hO : Only b W W') : At W' q s := fun hne => by
  obtain ⟨g, o, rfl, hc, cur, fr, ht⟩ := h hne
  have hne : g ≠ b := fun e => by
    subst e
    unfold Pars at hP
    rw [hP] at ht
    injection ht with ht
    injection ht with _ ht
    exact absurd ht (by decide)
  have hb := hO.block g (Array.getElem?_eq_some_iff.1 ht).1 hne
  exact ⟨g, o, rfl, fun i hi => by rw [World.cell?_of_block (a := ⟨g, o + i, none⟩) hb]; exact hc i hi, cur, fr, hb.trans ht⟩
/-- slices of bytes in a row of the call's own -/
def Args (B : Nat) (W : World) (v : Value) (l : List (List UInt8)) : Prop := ∃ xs, W.ownsRow B 26 1 v l.length xs ∧ ∀ i (h : i < l.length), ∃ q c, xs[i]? = some (.slice q l[i].length c) ∧ At W q l[i]
theorem Args.nil (B : Nat) (W : World) : Args B W (.slice none 0 0) [] := ⟨[], World.ownsRow_nil W B _ _, fun i h => absurd h (by simp)⟩
theorem Args.shape {B : Nat} {W : World} {v : Value} {l : List (List UInt8)} (h : Args B W v l) : ∃ a c, v = .slice a l.length c := by
  obtain ⟨xs, h, _⟩ := h
  rcases h.2 with ⟨h, h0⟩ | ⟨g, cap, _, h, _⟩
  · exact ⟨none, 0, by rw [h, h0]⟩
  · exact ⟨_, _, h⟩
theorem Args.parts {B : Nat} {W : World} {a : Option Addr} {n c : Nat} {l : List (List UInt8)} (h : Args B W (.slice a n c) l) : n = l.length ∧ Parts W a l := by
  obtain ⟨xs, h, hx⟩ := h
  rcases h.2 with ⟨e, h0⟩ | ⟨g, cap, cur, e, _⟩
  · injection e with _ e _
    exact ⟨e.trans h0.symm, fun hne => absurd (List.eq_nil_of_length_eq_zero h0) hne⟩
  · injection e with e1 e2 e3
    subst e1
    subst e2
    refine ⟨rfl, fun _ => ⟨g, 0, rfl, fun i hi => ?_⟩⟩
    obtain ⟨q, c, h1, h2⟩ := hx i hi
    exact ⟨q, c, by rw [Nat.zero_add, h.cellAt i (by omega)]; exact h1, h2⟩
theorem Args.base {B B' : Nat} {W : World} {v : Value} {l : List (List UInt8)} (h : Args B W v l) (hB : B' ≤ B) : Args B' W v l := by
  obtain ⟨xs, h, hx⟩ := h
  refine ⟨xs, ⟨h.1, ?_⟩, hx⟩
  rcases h.2 with h | ⟨g, cap, cur, e, hg, r⟩
  · exact .inl h
  · exact .inr ⟨g, cap, cur, e, Nat.le_trans hB hg, r⟩
theorem Args.only {B b : Nat} {W W' : World} {v u : Value} {e : Int} {l : List (List UInt8)} (h : Args B W v l) (hP : Pars W b u e) (hb : b < B) (hO : Only b W W') : Args B W' v l := by
  obtain ⟨xs, h, hx⟩ := h
  refine ⟨xs, ⟨h.1, ?_⟩, fun i hi => ?_⟩
  · rcases h.2 with h | ⟨g, cap, cur, e, hg, h3, r⟩
    · exact .inl h
    · exact .inr ⟨g, cap, cur, e, hg, (hO.block g (Array.getElem?_eq_some_iff.1 h3).1 (by omega)).trans h3, r⟩
  · obtain ⟨q, c, h1, h2⟩ := hx i hi
    exact ⟨q, c, h1, h2.only hP hO⟩
theorem Args.below {B : Nat} {W W' : World} {v : Value} {l : List (List UInt8)} (h : Args B W v l) (hb : Below W.heap.size W W') : Args B W' v l := by
  obtain ⟨xs, h, hx⟩ := h
  refine ⟨xs, owns_below h hb, fun i hi => ?_⟩
  obtain ⟨q, c, h1, h2⟩ := hx i hi
  exact ⟨q, c, h1, h2.below hb⟩
/-- a row of slices that is known cell by cell -/
theorem Args.of_row {B A : Nat} {W : World} {l : List (List UInt8)} {f : Nat → Value} (hR : W.rowIs A 26 l.length f) (hB : B ≤ A) (hl : l.length ≤ 100000) (hP : Parts W (some ⟨A, 0, none⟩) l) : Args B W (.slice (some ⟨A, 0, none⟩) l.length l.length) l := by
  obtain ⟨cur, hc, hs, hf⟩ := hR
  refine ⟨cur.toList, ⟨by simp [hs], .inr ⟨A, l.length, cur, rfl, hB, hc, Nat.le_refl _, by unfold maxLen; omega, by omega, by rw [List.take_of_length_le (by simp [hs])]⟩⟩, fun i hi => ?_⟩
  obtain ⟨b, o, e, hcell⟩ := hP (fun e => by rw [e] at hi; simp at hi)
  injection e with e
  injection e with e1 e2
  subst e1
  subst e2
  obtain ⟨q, c, h1, h2⟩ := hcell i hi
  rw [Nat.zero_add, cell_of_row W A i _ _ _ hc] at h1
  exact ⟨q, c, by simpa using h1, h2⟩
/-- blocks of bytes are as they were -/
def Still (W W' : World) : Prop := ∀ (g : Nat) (cur : Array Value) (fr : Nat × Nat), W.heap[g]? = some (.cells cur 5 fr) → W'.heap[g]? = some (.cells cur 5 fr)
theorem At.still {W W' : World} {q : Option Addr} {s : List UInt8} (h : At W q s) (hs : Still W W') : At W' q s := fun hne => by
  obtain ⟨g, o, rfl, hc, cur, fr, ht⟩ := h hne
  have hb := hs g cur fr ht
  exact ⟨g, o, rfl, fun i hi => by rw [World.cell?_of_block (a := ⟨g, o + i, none⟩) (hb.trans ht.symm)]; exact hc i hi, cur, fr, hb⟩
theorem Only.then_below {b : Nat} {w W W' : World} (h : Only b w W) (hb : Below w.heap.size W W') : Only b w W' := ⟨hb.os.trans h.os, hb.tape.trans h.tape, hb.output.trans h.output, Nat.le_trans h.size hb.size, fun k hk hne => (hb.block k hk).trans (h.block k hk hne)⟩
theorem push_arg {B : Nat} {W : World} {v : Value} {l : List (List UInt8)} {q : Option Addr} {s : List UInt8} (c : Nat) (h : Args B W v l) (hq : At W q s) (hB : B ≤ W.heap.size) (hl : l.length ≤ 100000) :
    ∃ v' W', (Builtin.append_ #[42, 42] 42 #[v, .slice (some ⟨W.heap.size, 0, none⟩) 1 1]).run Tryd.prog (W.alloc (.cells #[.slice q s.length c] 26)) = .ok v' W' ∧ Args B W' v' (l ++ [s]) ∧ Below B W W' ∧ B ≤ W'.heap.size ∧ Still W W' := by
  obtain ⟨i0, hi, hz0, hz1, hz2⟩ := info_parts infoBytes
  obtain ⟨xs, h, hx⟩ := h
  have hba := below_alloc W (.cells #[.slice q s.length c] 26)
  have hown' := owns_below h hba
  obtain ⟨v', w', hrun, ho, hgr, _⟩ := run_append_own (P := Tryd.prog) (W.alloc (.cells #[.slice q s.length c] 26)) B 42 42 26 i0 (.slice none 0 0) 1 24 Tryd.underlying42 hi hz0 hz1 hz2 rfl (by decide) _ _ _ hown' ⟨W.heap.size, 0, none⟩ 1 1 [.slice q s.length c] rfl
    (fun j u hj => by
      rw [Go.WideShapes.add_plain, cell_of_row _ _ _ _ _ _ (heap_alloc_new W _)]
      simpa using hj)
    (fun u hu => by rw [List.mem_singleton.1 hu]; rfl) (by unfold maxLen; omega) (by omega) (by simp; omega)
  have hSt : Still W w' := fun g cur fr h0 => by
    have hlt0 := (Array.getElem?_eq_some_iff.1 h0).1
    have ht := (hba.block g hlt0).trans h0
    have hlt := (Array.getElem?_eq_some_iff.1 ht).1
    have hne2 : some g ≠ v.ownBlock := by
      rcases hown'.2 with ⟨rfl, _⟩ | ⟨g', cap, cur', rfl, _, hg', _⟩
      · simp [Value.ownBlock]
      · intro e
        simp only [Value.ownBlock, Option.some.injEq] at e
        subst e
        rw [hg'] at ht
        injection ht with ht
        injection ht with _ ht
        exact absurd ht (by decide)
    exact (hgr.block g hlt hne2).trans ht
  refine ⟨v', w', hrun, ⟨xs ++ [.slice q s.length c], by rw [List.length_append]; exact ho, fun i hi => ?_⟩, ?_, ?_, hSt⟩
  · rw [List.length_append] at hi
    have hxl : xs.length = l.length := by rw [h.1]; omega
    by_cases hin : i < l.length
    · obtain ⟨q', c', h1, h2⟩ := hx i hin
      refine ⟨q', c', ?_, ?_⟩
      · rw [List.getElem?_append_left (by omega), h1, List.getElem_append_left hin]
      · rw [List.getElem_append_left hin]; exact h2.still hSt
    · have hie : i = l.length := by simp at hi; omega
      subst hie
      refine ⟨q, c, ?_, ?_⟩
      · rw [List.getElem?_append_right (by omega), hxl]; simp
      · rw [List.getElem_append_right (by omega)]; simp; exact hq.still hSt
  · exact ((Below.refl B W).alloc hB _).grown hgr (by simp; omega) (fun k hk => (World.ownsRow.lt h k hk).1)
  · have := hgr.size; simp at this; omega

end Go.Proofs.YtjcegiponjpjiabDoor
