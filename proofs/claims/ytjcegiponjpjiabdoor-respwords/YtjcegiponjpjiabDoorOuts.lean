/- Commands under way: a row of rows of texts that grows; what other blocks' turns leave alone. -/
import Derived.Test.YtjcegiponjpjiabDoorNext
import Derived.Test.YtjcegiponjpjiabDoorRefSame
namespace Go.Proofs.YtjcegiponjpjiabDoor
open Go.RowKit

/-- rows of texts, and rows of such, are as they were -/
def Kept (W W' : World) : Prop := ∀ (g : Nat) (cur : Array Value) (fr : Nat × Nat) (t : TypeId), t = 9 ∨ t = 22 → W.heap[g]? = some (.cells cur t fr) → W'.heap[g]? = some (.cells cur t fr)
theorem Kept.refl (W : World) : Kept W W := fun _ _ _ _ _ h => h
theorem Kept.trans {W W' W'' : World} (h : Kept W W') (k : Kept W' W'') : Kept W W'' := fun g cur fr t ht h0 => k g cur fr t ht (h g cur fr t ht h0)
theorem Kept.of_below {W W' : World} (hb : Below W.heap.size W W') : Kept W W' := fun g _ _ _ _ h0 => (hb.block g (Array.getElem?_eq_some_iff.1 h0).1).trans h0
theorem Kept.of_only {W W' : World} {b : Nat} {v : Value} {e : Int} (hP : Pars W b v e) (hO : Only b W W') : Kept W W' := fun g _ _ t ht h0 => by
  refine (hO.block g (Array.getElem?_eq_some_iff.1 h0).1 fun hg => ?_).trans h0
  subst hg
  unfold Pars at hP
  rw [hP] at h0
  injection h0 with h0
  injection h0 with _ h0
  rcases ht with rfl | rfl
  · exact absurd h0 (by decide)
  · exact absurd h0 (by decide)
/-- commands, each a row of texts of its own, in a row of their own -/
def Outs (B : Nat) (W : World) (v : Value) (L : List (List (List UInt8))) : Prop := ∃ xs, W.ownsRow B 22 1 v L.length xs ∧ ∀ i (h : i < L.length), ∃ A, xs[i]? = some (.slice (some ⟨A, 0, none⟩) L[i].length L[i].length) ∧ W.rowIs A 9 L[i].length (textAt L[i] L[i].length)
theorem Outs.nil (B : Nat) (W : World) : Outs B W (.slice none 0 0) [] := ⟨[], World.ownsRow_nil W B _ _, fun i h => absurd h (by simp)⟩
theorem Outs.shape {B : Nat} {W : World} {v : Value} {L : List (List (List UInt8))} (h : Outs B W v L) : ∃ a c, v = .slice a L.length c := by
  obtain ⟨xs, h, _⟩ := h
  rcases h.2 with ⟨h, h0⟩ | ⟨g, cap, _, h, _⟩
  · exact ⟨none, 0, by rw [h, h0]⟩
  · exact ⟨_, _, h⟩
theorem Outs.kept {B : Nat} {W W' : World} {v : Value} {L : List (List (List UInt8))} (h : Outs B W v L) (hk : Kept W W') : Outs B W' v L := by
  obtain ⟨xs, h, hx⟩ := h
  refine ⟨xs, ⟨h.1, ?_⟩, fun i hi => ?_⟩
  · rcases h.2 with h | ⟨g, cap, cur, e, hg, h3, r⟩
    · exact .inl h
    · exact .inr ⟨g, cap, cur, e, hg, hk g cur _ _ (.inr rfl) h3, r⟩
  · obtain ⟨A, h1, c, hc, h2⟩ := hx i hi
    exact ⟨A, h1, c, hk A c _ _ (.inl rfl) hc, h2⟩
theorem Outs.base {B B' : Nat} {W : World} {v : Value} {L : List (List (List UInt8))} (h : Outs B W v L) (hB : B' ≤ B) : Outs B' W v L := by
  obtain ⟨xs, h, hx⟩ := h
  refine ⟨xs, ⟨h.1, ?_⟩, hx⟩
  rcases h.2 with h | ⟨g, cap, cur, e, hg, r⟩
  · exact .inl h
  · exact .inr ⟨g, cap, cur, e, Nat.le_trans hB hg, r⟩
theorem Outs.cmds {B : Nat} {W : World} {a : Option Addr} {n c : Nat} {L : List (List (List UInt8))} (h : Outs B W (.slice a n c) L) : Cmds W a L := fun hne => by
  obtain ⟨xs, h, hx⟩ := h
  rcases h.2 with ⟨e, h0⟩ | ⟨g, cap, cur, e, _⟩
  · exact absurd (List.eq_nil_of_length_eq_zero h0) hne
  · injection e with e1 e2 e3
    subst e1
    subst e2
    refine ⟨g, 0, rfl, fun i hi => ?_⟩
    obtain ⟨A, h1, h2⟩ := hx i hi
    refine ⟨_, _, by rw [Nat.zero_add, h.cellAt i (by omega)]; exact h1, fun _ => ⟨A, 0, rfl, fun k hk => ?_⟩⟩
    rw [Nat.zero_add, h2.cell hk]
    unfold textAt
    rw [if_pos hk]
    simp [List.getD, hk]
theorem infoStrs : (Tryd.prog.info? 22).map (fun i => (i.zero, i.size, i.bytes)) = some (some (.slice none 0 0), 1, 24) := by kernel_rfl
theorem push_cmd {B : Nat} {W : World} {v : Value} {L : List (List (List UInt8))} {A : Nat} {l : List (List UInt8)} (h : Outs B W v L) (hA : W.rowIs A 9 l.length (textAt l l.length)) (hB : B ≤ W.heap.size) (hl : L.length ≤ 1000000000) :
    ∃ v' W', (Builtin.append_ #[29, 29] 29 #[v, .slice (some ⟨W.heap.size, 0, none⟩) 1 1]).run Tryd.prog (W.alloc (.cells #[.slice (some ⟨A, 0, none⟩) l.length l.length] 22)) = .ok v' W' ∧ Outs B W' v' (L ++ [l]) ∧ Below B W W' ∧ B ≤ W'.heap.size ∧ Still W W' ∧ ∀ k, k < B → W'.heap[k]? = W.heap[k]? := by
  obtain ⟨i0, hi, hz0, hz1, hz2⟩ := info_parts infoStrs
  obtain ⟨xs, h, hx⟩ := h
  have hba := below_alloc W (.cells #[.slice (some ⟨A, 0, none⟩) l.length l.length] 22)
  have hown' := owns_below h hba
  obtain ⟨v', w', hrun, ho, hgr, _⟩ := run_append_own (P := Tryd.prog) (W.alloc (.cells #[.slice (some ⟨A, 0, none⟩) l.length l.length] 22)) B 29 29 22 i0 (.slice none 0 0) 1 24 Tryd.underlying29 hi hz0 hz1 hz2 rfl (by decide) _ _ _ hown' ⟨W.heap.size, 0, none⟩ 1 1 [.slice (some ⟨A, 0, none⟩) l.length l.length] rfl
    (fun j u hj => by
      rw [Go.WideShapes.add_plain, cell_of_row _ _ _ _ _ _ (heap_alloc_new W _)]
      simpa using hj)
    (fun u hu => by rw [List.mem_singleton.1 hu]; rfl) (by unfold maxLen; omega) (by omega) (by simp; omega)
  have hSt : ∀ (g : Nat) (cur : Array Value) (fr : Nat × Nat) (t : TypeId), ¬ t = 22 → W.heap[g]? = some (.cells cur t fr) → w'.heap[g]? = some (.cells cur t fr) := fun g cur fr t hne h0 => by
    have hlt0 := (Array.getElem?_eq_some_iff.1 h0).1
    have ht := (hba.block g hlt0).trans h0
    have hlt := (Array.getElem?_eq_some_iff.1 ht).1
    have hne2 : some g ≠ v.ownBlock := by
      rcases hown'.2 with ⟨rfl, _⟩ | ⟨g', cap, cur', rfl, _, hg', _⟩
      · simp [Value.ownBlock]
      · intro e
        simp only [Value.ownBlock, Option.some.injEq] at e
        subst e
        rw [hg'] at ht
        injection ht with ht
        injection ht with _ ht
        exact absurd ht.symm hne
    exact (hgr.block g hlt hne2).trans ht
  have hRow : ∀ A' n f, W.rowIs A' 9 n f → w'.rowIs A' 9 n f := fun A' n f hr => by
    obtain ⟨c, hc, h2⟩ := hr
    exact ⟨c, hSt A' c _ _ (by decide) hc, h2⟩
  have hbel : Below B W w' := ((Below.refl B W).alloc hB _).grown hgr (by simp; omega) (fun k hk => (World.ownsRow.lt h k hk).1)
  refine ⟨v', w', hrun, ⟨xs ++ [.slice (some ⟨A, 0, none⟩) l.length l.length], by rw [List.length_append]; exact ho, fun i hi => ?_⟩, hbel, ?_, fun g cur fr h0 => hSt g cur fr _ (by decide) h0, fun k hk => hbel.block k hk⟩
  · rw [List.length_append] at hi
    have hxl : xs.length = L.length := by rw [h.1]; omega
    by_cases hin : i < L.length
    · obtain ⟨A', h1, h2⟩ := hx i hin
      refine ⟨A', ?_, ?_⟩
      · rw [List.getElem?_append_left (by omega), h1, List.getElem_append_left hin]
      · rw [List.getElem_append_left hin]; exact hRow _ _ _ h2
    · have hie : i = L.length := by simp at hi; omega
      subst hie
      refine ⟨A, ?_, ?_⟩
      · rw [List.getElem?_append_right (by omega), hxl]; simp
      · rw [List.getElem_append_right (by omega)]; simp; exact hRow _ _ _ hA
  · have := hgr.size; simp at this; omega
theorem one_stop {s : List UInt8} {e : Int} (h : one s = .stop e) : e ≠ 0 := by
  have hb : ∀ (n : Nat) (acc : List (List UInt8)) (s : List UInt8) (e : Int), bulks n acc s = .stop e → e ≠ 0 := by
    intro n
    induction n with
    | zero => intro acc s e h; unfold bulks at h; cases h
    | succ n ih =>
      intro acc s e h
      unfold bulks at h
      split at h
      · rename_i e' hk
        injection h with h
        subst h
        unfold bulk at hk
        split at hk
        · injection hk with hk; subst hk; decide
        · split at hk
          · injection hk with hk; subst hk; exact noLine_ne _
          · split at hk
            · injection hk with hk; subst hk; decide
            · split at hk
              · cases hk
              · rename_i h0; injection hk with hk; subst hk; exact h0
      · exact ih _ _ _ h
  unfold one at h
  split at h
  · injection h with h; subst h; exact noLine_ne _
  · split at h
    · split at h
      · injection h with h; subst h; decide
      · exact hb _ _ _ _ h
    · split at h
      · injection h with h; subst h; decide
      · cases h
theorem Nxt.err {s s' : List UInt8} {o : Option (List (List UInt8))} {e : Int} (h : Nxt s o s' e) : e ≠ -1 ∧ (e ≠ 0 → s' = [] ∧ o = none) := by
  induction h with
  | more h => exact ⟨by decide, fun h => absurd rfl h⟩
  | bad h he => exact ⟨he, fun _ => ⟨rfl, rfl⟩⟩
  | skip h _ ih => exact ih
  | some h _ => exact ⟨by decide, fun h => absurd rfl h⟩
theorem Runs.err {s s' : List UInt8} {c : List (List (List UInt8))} {e : Int} (h : Runs s c s' e) : e ≠ -1 ∧ (e ≠ 0 → s' = []) := by
  induction h with
  | more h => exact ⟨by decide, fun h => absurd rfl h⟩
  | bad h he => exact ⟨he, fun _ => rfl⟩
  | skip h _ ih => exact ih
  | some h _ _ ih => exact ih

end Go.Proofs.YtjcegiponjpjiabDoor
