/- A row of rows of texts that came in, opened; wanted commands under way. -/
import Derived.Test.YtjcegiponjpjiaaDoorOpenStrs
import Derived.Test.YtjcegiponjpjiaaDoorOuts
import Derived.Deep.Slices
namespace Go.Proofs.YtjcegiponjpjiaaDoor
open Go.RowKit

theorem open_rows {H : Type} {enc : TypeId × Value → H} {W : World} {base : Nat} {sp : Nat → Bool} {held : Bool} {m : Nat} {a : Option Addr} {len cap : Nat} {d : DataW H} {p : List MemPlace} (hm : DataW.trod enc Tryd.prog W base sp held m 27 [.slice a len cap] = some (d, p)) :
    ∃ L : List (List (List UInt8)), L.length = len ∧ Cmds W a L ∧ ∀ x ∈ L, x.length ≤ maxLen := by
  rcases Go.Deep.open_slice1 Tryd.underlying27 (by kernel_rfl) hm with ⟨e, _⟩ | ⟨a0, len0, cap0, M, n, V, D, Pl, e, _, hl, _, hM, hd, hc⟩
  · simp only [List.cons.injEq, Value.slice.injEq, and_true] at e
    obtain ⟨rfl, rfl, rfl⟩ := e
    exact ⟨[], rfl, fun h => absurd rfl h, (fun x h => by cases h)⟩
  · simp only [List.cons.injEq, Value.slice.injEq, and_true] at e
    obtain ⟨rfl, rfl, rfl⟩ := e
    have hlM : len ≤ M := by rw [hM]; split <;> omega
    have each : ∀ i, i < len → ∃ (q : Option Addr) (c : Nat) (l : List (List UInt8)), V i = .slice q l.length c ∧ Strs W q l ∧ l.length ≤ maxLen := fun i hi => by
      have ht := (hc i (by omega)).2
      have hsh : ∃ q n' c, V i = .slice q n' c ∧ n' ≤ maxLen := by
        rcases Go.Deep.open_strs Tryd.underlying36 Tryd.underlying9 (by kernel_rfl) ht with ⟨e, _⟩ | ⟨a1, len1, cap1, _, _, e, _, hl1, hm1, _⟩
        · exact ⟨none, 0, 0, by simpa using e, Nat.zero_le _⟩
        · exact ⟨some a1, len1, cap1, by simpa using e, Nat.le_trans hl1 hm1⟩
      obtain ⟨q, n', c, hv, hnm⟩ := hsh
      rw [hv] at ht
      obtain ⟨l, h1, h2, _⟩ := open_texts ht
      exact ⟨q, c, l, by rw [hv, h1], h2, by rw [h1]; exact hnm⟩
    have build : ∀ k, k ≤ len → ∃ L : List (List (List UInt8)), L.length = k ∧ ∀ i (h : i < L.length), ∃ q c, V i = .slice q L[i].length c ∧ Strs W q L[i] ∧ L[i].length ≤ maxLen := by
      intro k
      induction k with
      | zero => intro _; exact ⟨[], rfl, fun i h => absurd h (by simp)⟩
      | succ k ih =>
        intro hk
        obtain ⟨L, h1, h2⟩ := ih (by omega)
        obtain ⟨q, c, l, h3, h4, h4m⟩ := each k (by omega)
        refine ⟨L ++ [l], by simp [h1], fun i h => ?_⟩
        by_cases hi : i < L.length
        · obtain ⟨q', c', h5, h6, h7⟩ := h2 i hi
          exact ⟨q', c', by rw [List.getElem_append_left hi]; exact h5, by rw [List.getElem_append_left hi]; exact h6, by rw [List.getElem_append_left hi]; exact h7⟩
        · have hie : i = k := by simp at h; omega
          subst hie
          subst h1
          exact ⟨q, c, by rw [List.getElem_append_right (by omega)]; simpa using h3, by rw [List.getElem_append_right (by omega)]; simpa using h4, by rw [List.getElem_append_right (by omega)]; simpa using h4m⟩
    obtain ⟨L, h1, h2⟩ := build len (Nat.le_refl _)
    refine ⟨L, h1, fun hne => ?_, fun x hx => by
      obtain ⟨i, hi, rfl⟩ := List.getElem_of_mem hx
      exact (h2 i hi).choose_spec.choose_spec.2.2⟩
    have hlen : 0 < len := by
      rcases Nat.eq_zero_or_pos len with h | h
      · exact absurd (List.eq_nil_of_length_eq_zero (by omega)) hne
      · exact h
    obtain ⟨blk, off, spot⟩ := a0
    have h0 := (hc 0 (by omega)).1
    have hsp : spot = none := by
      cases spot with
      | none => rfl
      | some x =>
        unfold Addr.add at h0
        simp only [if_true] at h0
        unfold World.cell? at h0
        split at h0
        · simp at h0
        · cases h0
    subst hsp
    refine ⟨blk, off, rfl, fun i hi => ?_⟩
    have hci := (hc i (by omega)).1
    rw [Go.WideShapes.add_plain] at hci
    obtain ⟨q, c, h5, h6, _⟩ := h2 i hi
    exact ⟨q, c, by rw [hci, h5], h6⟩
/-- commands that came in, in a row of the call's own -/
def Wants (B : Nat) (w W : World) (v : Value) (L : List (List (List UInt8))) : Prop := ∃ xs, W.ownsRow B 36 1 v L.length xs ∧ ∀ i (h : i < L.length), ∃ q c, xs[i]? = some (.slice q L[i].length c) ∧ Strs w q L[i]
theorem Wants.nil (B : Nat) (w W : World) : Wants B w W (.slice none 0 0) [] := ⟨[], World.ownsRow_nil W B _ _, fun i h => absurd h (by simp)⟩
theorem Wants.shape {B : Nat} {w W : World} {v : Value} {L : List (List (List UInt8))} (h : Wants B w W v L) : ∃ p c, v = .slice p L.length c := by
  obtain ⟨xs, h, _⟩ := h
  rcases h.2 with ⟨h, h0⟩ | ⟨g, cap, _, h, _⟩
  · exact ⟨none, 0, by rw [h, h0]⟩
  · exact ⟨_, _, h⟩
theorem Wants.kept {B : Nat} {w W W' : World} {v : Value} {L : List (List (List UInt8))} (h : Wants B w W v L) (hk : Kept W W') : Wants B w W' v L := by
  obtain ⟨xs, h, hx⟩ := h
  refine ⟨xs, ⟨h.1, ?_⟩, hx⟩
  rcases h.2 with h | ⟨g, cap, cur, e1, hg, h3, r⟩
  · exact .inl h
  · exact .inr ⟨g, cap, cur, e1, hg, hk g cur _ _ (.inr rfl) h3, r⟩
theorem Wants.cmds {B : Nat} {w W : World} {a : Option Addr} {n c : Nat} {L : List (List (List UInt8))} (h : Wants B w W (.slice a n c) L) (hb : Below w.heap.size w W) : Cmds W a L := fun hne => by
  obtain ⟨xs, h, hx⟩ := h
  rcases h.2 with ⟨e, h0⟩ | ⟨g, cap, cur, e, _⟩
  · exact absurd (List.eq_nil_of_length_eq_zero h0) hne
  · injection e with e1 e2 e3
    subst e1
    subst e2
    refine ⟨g, 0, rfl, fun i hi => ?_⟩
    obtain ⟨q, c, h1, h2⟩ := hx i hi
    exact ⟨q, c, by rw [Nat.zero_add, h.cellAt i (by omega)]; exact h1, h2.below hb (Nat.le_refl _)⟩
theorem push_want {B : Nat} {w W : World} {v : Value} {L : List (List (List UInt8))} {q : Option Addr} {c : Nat} {l : List (List UInt8)} (h : Wants B w W v L) (hA : Strs w q l) (hB : B ≤ W.heap.size) (hl : L.length ≤ 1000000000) :
    ∃ v' W', (Builtin.append_ #[27, 27] 27 #[v, .slice (some ⟨W.heap.size, 0, none⟩) 1 1]).run Tryd.prog (W.alloc (.cells #[.slice q l.length c] 36)) = .ok v' W' ∧ Wants B w W' v' (L ++ [l]) ∧ Below B W W' ∧ ∀ (g : Nat) (cur : Array Value) (fr : Nat × Nat) (t : TypeId), ¬ t = 36 → W.heap[g]? = some (.cells cur t fr) → W'.heap[g]? = some (.cells cur t fr) := by
  obtain ⟨i0, hi, hz0, hz1, hz2⟩ := info_parts infoStrs
  obtain ⟨xs, h, hx⟩ := h
  have hba := below_alloc W (.cells #[.slice q l.length c] 36)
  have hown' := owns_below h hba
  obtain ⟨v', w', hrun, ho, hgr, _⟩ := run_append_own (P := Tryd.prog) (W.alloc (.cells #[.slice q l.length c] 36)) B 27 27 36 i0 (.slice none 0 0) 1 24 Tryd.underlying27 hi hz0 hz1 hz2 rfl (by decide) _ _ _ hown' ⟨W.heap.size, 0, none⟩ 1 1 [.slice q l.length c] rfl
    (fun j u hj => by
      rw [Go.WideShapes.add_plain, cell_of_row _ _ _ _ _ _ (heap_alloc_new W _)]
      simpa using hj)
    (fun u hu => by rw [List.mem_singleton.1 hu]; rfl) (by unfold maxLen; omega) (by omega) (by simp; omega)
  have hSt : ∀ (g : Nat) (cur : Array Value) (fr : Nat × Nat) (t : TypeId), ¬ t = 36 → W.heap[g]? = some (.cells cur t fr) → w'.heap[g]? = some (.cells cur t fr) := fun g cur fr t hne h0 => by
    have hlt0 := (Array.getElem?_eq_some_iff.1 h0).1
    have ht := (hba.block g hlt0).trans h0
    have hlt := (Array.getElem?_eq_some_iff.1 ht).1
    have hne2 : some g ≠ v.ownBlock := by
      rcases hown'.2 with ⟨rfl, _⟩ | ⟨g', cap, cur', rfl, _, hg', _⟩
      · simp [Value.ownBlock]
      · intro e
        simp only [Value.ownBlock, Option.some.injEq] at e
        subst e
        rw [hg'] at ht
        injection ht with ht
        injection ht with _ ht
        exact absurd ht.symm hne
    exact (hgr.block g hlt hne2).trans ht
  refine ⟨v', w', hrun, ⟨xs ++ [.slice q l.length c], by rw [List.length_append]; exact ho, fun i hi => ?_⟩, ((Below.refl B W).alloc hB _).grown hgr (by simp; omega) (fun k hk => (World.ownsRow.lt h k hk).1), hSt⟩
  rw [List.length_append] at hi
  have hxl : xs.length = L.length := by rw [h.1]; omega
  by_cases hin : i < L.length
  · obtain ⟨q', c', h1, h2⟩ := hx i hin
    refine ⟨q', c', ?_, ?_⟩
    · rw [List.getElem?_append_left (by omega), h1, List.getElem_append_left hin]
    · rw [List.getElem_append_left hin]; exact h2
  · have hie : i = L.length := by simp at hi; omega
    subst hie
    refine ⟨q, c, ?_, ?_⟩
    · rw [List.getElem?_append_right (by omega), hxl]; simp
    · rw [List.getElem_append_right (by omega)]; simp; exact hA
/-- a command that fits is short when written -/
theorem cmd_fits (l : List (List UInt8)) (h : l.length ≤ 32) (hx : ∀ x ∈ l, x.length ≤ 1024) : (cmd l).length ≤ 100000 := by
  have h1 : ∀ m : List (List UInt8), (∀ x ∈ m, x.length ≤ 1024) → ((m.map item).flatten).length ≤ 2000 * m.length := by
    intro m
    induction m with
    | nil => intro _; simp
    | cons x m ih =>
      intro hm
      have h2 := ih (fun y hy => hm y (by simp [hy]))
      have h5 := hm x (by simp)
      have h3 := dec_short x.length (by omega)
      rw [List.map_cons, List.flatten_cons, List.length_append, List.length_cons]
      have h4 : (item x).length = 1 + (dec x.length).length + 2 + x.length + 2 := by simp [item]; omega
      omega
  have h2 := h1 l hx
  unfold cmd cmdTo
  rw [List.take_length]
  have h3 := dec_short l.length (by omega)
  simp only [List.length_append, List.length_cons, List.length_nil]
  omega

end Go.Proofs.YtjcegiponjpjiaaDoor
