/- Links in memory: one letter more, one less. -/
import Derived.Test.YtjcfbnhmljlkpaaLkLS
namespace Go.Proofs.Ytjcfbnhmljlkpaa
open Go.RowKit Go.Maps

def updP (pl : Int → Int → List Pc) (f t : Int) (l : List Pc) : Int → Int → List Pc := fun g u => if g = f ∧ u = t then l else pl g u
theorem updP_same (pl : Int → Int → List Pc) (f t : Int) (l : List Pc) : updP pl f t l f t = l := if_pos ⟨rfl, rfl⟩
theorem updP_other (pl : Int → Int → List Pc) {f t : Int} (l : List Pc) {g u : Int} (h : ¬ (g = f ∧ u = t)) : updP pl f t l g u = pl g u := if_neg h
section
variable {w : World} {b m : Nat} {D : DataW Value} {pl : Int → Int → List Pc} {F R : Nat → Prop} {ws : List Wy}
theorem LS.sent (h : LS w b m D pl F R ws) {f t : Int} (hi : IE f t) {p : Pc} {w' : World} {N1 n' : Nat} (hsz : w.heap.size ≤ w'.heap.size) (hk : ∀ k, k < w.heap.size → k ≠ m → k ∉ (pl f t).map Pc.b → w'.heap[k]? = w.heap[k]?)
    (hch : Chain w' (pl f t ++ [p])) (hN : w.heap.size ≤ N1) (hp : N1 ≤ p.b) (hx : LtR (fun k => w.heap.size ≤ k ∧ k < N1) w' p.x p.ap p.rp) (hf : FewL p.x)
    (hom : OM w' m n' (D.put (kl f t) (.held (rowOf (pl f t ++ [p]))))) :
    LS w' b m (D.put (kl f t) (.held (rowOf (pl f t ++ [p])))) (updP pl f t (pl f t ++ [p])) (fun k => F k ∨ k = p.b) (fun k => R k ∨ (w.heap.size ≤ k ∧ k < N1)) (ws ++ [⟨f, t, p.x⟩]) := by
  have hmap := World.ownsMap.isMap h.om
  have hpl : p.b < w'.heap.size := hch.lt p (by simp)
  have hin : ∀ g u q, q ∈ pl g u → q.b < w.heap.size := fun g u q hq => (h.chain g u).lt q hq
  have hapart : ∀ g u q, q ∈ pl g u → ¬ (g = f ∧ u = t) → q.b ∉ (pl f t).map Pc.b := fun g u q hq hne hc => by
    obtain ⟨y, hy, e⟩ := List.mem_map.1 hc
    obtain ⟨i, hi1⟩ := List.getElem?_of_mem hq
    obtain ⟨j, hj1⟩ := List.getElem?_of_mem hy
    obtain ⟨e1, e2, _⟩ := h.inj g u f t i j q y hi1 hj1 e.symm
    exact hne ⟨e1, e2⟩
  have hbk : w'.heap[b]? = w.heap[b]? := hk b h.bl (fun e => h.mb e.symm) (fun hc => by
    obtain ⟨y, hy, e⟩ := List.mem_map.1 hc
    exact (h.pm hy).2 e)
  have hR : ∀ k, R k → w'.heap[k]? = w.heap[k]? := fun k hr => hk k (h.lt k (.inr hr)) (fun e => h.sep k hr (e ▸ h.fm)) (fun hc => by
    obtain ⟨y, hy, e⟩ := List.mem_map.1 hc
    exact h.sep k hr (e ▸ h.own f t y hy))
  refine ⟨hbk.trans h.blk, hom.tight, .inl h.fb, .inl h.fm, fun g u => ?_, fun g u => ?_, fun g u hgu => ?_, fun g u hgu => ?_, fun g u hne => ?_, ?_, fun g u q hq => ?_, fun g u q hq => ?_, fun k hkk => ?_, fun k hr hff => ?_⟩
  · by_cases e : g = f ∧ u = t
    · obtain ⟨rfl, rfl⟩ := e
      rw [updP_same]; exact hch
    · rw [updP_other pl _ e]
      exact (h.chain g u).turn (fun q hq => hk _ (hin g u q hq) (h.pm hq).1 (hapart g u q hq e))
  · rw [onV_send]
    by_cases e : g = f ∧ u = t
    · obtain ⟨rfl, rfl⟩ := e
      rw [updP_same, if_pos ⟨rfl, rfl⟩, List.map_append, h.que]; rfl
    · rw [updP_other pl _ e, if_neg e, h.que]
  · by_cases e : g = f ∧ u = t
    · obtain ⟨rfl, rfl⟩ := e
      rw [updP_same, atKey_put_same hmap (kl_key _ _)]
    · rw [updP_other pl _ e, atKey_put_other (fun e2 => e (kl_inj hgu hi e2)), h.val g u hgu]
  · by_cases e : g = f ∧ u = t
    · obtain ⟨rfl, rfl⟩ := e
      rw [updP_same, has_put_same hmap (kl_key _ _)]
      cases pl g u <;> rfl
    · rw [updP_other pl _ e, has_put_other (fun e2 => e (kl_inj hgu hi e2)), h.has g u hgu]
  · by_cases e : g = f ∧ u = t
    · obtain ⟨rfl, rfl⟩ := e; exact hi
    · rw [updP_other pl _ e] at hne; exact h.ie g u hne
  · have one : ∀ g u (i : Nat) q, (updP pl f t (pl f t ++ [p]) g u)[i]? = some q → ((pl g u)[i]? = some q) ∨ (g = f ∧ u = t ∧ i = (pl f t).length ∧ q = p) := by
      intro g u i q hq
      by_cases e : g = f ∧ u = t
      · obtain ⟨rfl, rfl⟩ := e
        rw [updP_same] at hq
        rcases Nat.lt_trichotomy i (pl g u).length with hl | hl | hl
        · rw [List.getElem?_append_left hl] at hq; exact .inl hq
        · subst hl
          simp at hq
          exact .inr ⟨rfl, rfl, rfl, hq.symm⟩
        · rw [List.getElem?_eq_none (by simp; omega)] at hq; cases hq
      · rw [updP_other pl _ e] at hq; exact .inl hq
    intro g u g' u' i j q q' hq hq' e
    rcases one g u i q hq with h1 | ⟨rfl, rfl, rfl, rfl⟩ <;> rcases one g' u' j q' hq' with h2 | ⟨rfl, rfl, rfl, rfl⟩
    · exact h.inj _ _ _ _ i j q q' h1 h2 e
    · have := hin g u q (List.mem_of_getElem? h1); omega
    · have := hin g' u' q' (List.mem_of_getElem? h2); omega
    · exact ⟨rfl, rfl, rfl⟩
  · by_cases e : g = f ∧ u = t
    · obtain ⟨rfl, rfl⟩ := e
      rw [updP_same] at hq
      rcases List.mem_append.1 hq with hq | hq
      · exact .inl (h.own _ _ q hq)
      · exact .inr (by rw [List.mem_singleton.1 hq])
    · rw [updP_other pl _ e] at hq; exact .inl (h.own g u q hq)
  · have old : ∀ g u, q ∈ pl g u → LtR (fun k => R k ∨ (w.heap.size ≤ k ∧ k < N1)) w' q.x q.ap q.rp ∧ FewL q.x := fun g u hq =>
      ⟨(h.lies g u q hq).1.turn (fun k hr _ => ⟨.inl hr, hR k hr⟩), (h.lies g u q hq).2⟩
    by_cases e : g = f ∧ u = t
    · obtain ⟨rfl, rfl⟩ := e
      rw [updP_same] at hq
      rcases List.mem_append.1 hq with hq | hq
      · exact old _ _ hq
      · rw [List.mem_singleton.1 hq]
        exact ⟨hx.turn (fun k hr _ => ⟨.inr hr, rfl⟩), hf⟩
    · rw [updP_other pl _ e] at hq; exact old _ _ hq
  · rcases hkk with (hkk | rfl) | (hkk | hkk)
    · exact Nat.lt_of_lt_of_le (h.lt k (.inl hkk)) hsz
    · exact hpl
    · exact Nat.lt_of_lt_of_le (h.lt k (.inr hkk)) hsz
    · omega
  · rcases hr with hr | hr <;> rcases hff with hff | hff
    · exact h.sep k hr hff
    · have := h.lt k (.inr hr); omega
    · have := h.lt k (.inl hff); omega
    · omega
theorem LS.cut (h : LS w b m D pl F R ws) {f t : Int} {p : Pc} {l : List Pc} (hpl : pl f t = p :: l) {w' : World} {n' : Nat} (hsz : w.heap.size ≤ w'.heap.size) (hk : ∀ k, k < w.heap.size → k ≠ m → w'.heap[k]? = w.heap[k]?)
    {D' : DataW Value} (hD : D' = if l = [] then D.del (kl f t) else D.put (kl f t) (.held (rowOf l))) (hom : OM w' m n' D') :
    LS w' b m D' (updP pl f t l) F R (cutV ws f t) := by
  have hmap := World.ownsMap.isMap h.om
  have hi : IE f t := h.ie f t (by rw [hpl]; simp)
  have hin : ∀ g u q, q ∈ pl g u → q.b < w.heap.size := fun g u q hq => (h.chain g u).lt q hq
  have turn : ∀ g u l', (∀ q ∈ l', q ∈ pl g u) → Chain w l' → Chain w' l' := fun g u l' hs hc => hc.turn (fun q hq => hk _ (hin g u q (hs q hq)) (h.pm (hs q hq)).1)
  have sub : ∀ g u q, q ∈ updP pl f t l g u → q ∈ pl g u := fun g u q hq => by
    by_cases e : g = f ∧ u = t
    · obtain ⟨rfl, rfl⟩ := e
      rw [updP_same] at hq
      rw [hpl]; simp [hq]
    · rwa [updP_other pl _ e] at hq
  refine ⟨(hk b h.bl (fun e => h.mb e.symm)).trans h.blk, hom.tight, h.fb, h.fm, fun g u => ?_, fun g u => ?_, fun g u hgu => ?_, fun g u hgu => ?_, fun g u hne => ?_, ?_, fun g u q hq => h.own g u q (sub g u q hq), fun g u q hq => ?_, fun k hkk => Nat.lt_of_lt_of_le (h.lt k hkk) hsz, h.sep⟩
  · by_cases e : g = f ∧ u = t
    · obtain ⟨rfl, rfl⟩ := e
      rw [updP_same]
      have hc := h.chain g u
      rw [hpl] at hc
      exact turn g u l (fun q hq => by rw [hpl]; simp [hq]) hc.2
    · rw [updP_other pl _ e]
      exact turn g u _ (fun q hq => hq) (h.chain g u)
  · rw [onV_cut]
    by_cases e : g = f ∧ u = t
    · obtain ⟨rfl, rfl⟩ := e
      rw [updP_same, if_pos ⟨rfl, rfl⟩, ← h.que, hpl]; rfl
    · rw [updP_other pl _ e, if_neg e, h.que]
  · subst hD
    by_cases e : g = f ∧ u = t
    · obtain ⟨rfl, rfl⟩ := e
      rw [updP_same]
      by_cases hl : l = []
      · rw [if_pos hl, atKey_del_same, hl]; rfl
      · rw [if_neg hl, atKey_put_same hmap (kl_key _ _)]
    · rw [updP_other pl _ e, ← h.val g u hgu]
      have hne : kl g u ≠ kl f t := fun e2 => e (kl_inj hgu hi e2)
      by_cases hl : l = []
      · rw [if_pos hl, atKey_del_other hne]
      · rw [if_neg hl, atKey_put_other hne]
  · subst hD
    by_cases e : g = f ∧ u = t
    · obtain ⟨rfl, rfl⟩ := e
      rw [updP_same]
      by_cases hl : l = []
      · rw [if_pos hl, has_del_same, hl]; rfl
      · rw [if_neg hl, has_put_same hmap (kl_key _ _)]
        cases l with
        | nil => exact absurd rfl hl
        | cons a l => rfl
    · rw [updP_other pl _ e, ← h.has g u hgu]
      have hne : kl g u ≠ kl f t := fun e2 => e (kl_inj hgu hi e2)
      by_cases hl : l = []
      · rw [if_pos hl, has_del_other hne]
      · rw [if_neg hl, has_put_other hne]
  · by_cases e : g = f ∧ u = t
    · obtain ⟨rfl, rfl⟩ := e; exact hi
    · rw [updP_other pl _ e] at hne; exact h.ie g u hne
  · have one : ∀ g u (i : Nat) q, (updP pl f t l g u)[i]? = some q → ∃ d, (pl g u)[i + d]? = some q ∧ d = if g = f ∧ u = t then 1 else 0 := by
      intro g u i q hq
      by_cases e : g = f ∧ u = t
      · refine ⟨1, ?_, by rw [if_pos e]⟩
        obtain ⟨rfl, rfl⟩ := e
        rw [updP_same] at hq
        rw [hpl, List.getElem?_cons_succ]
        exact hq
      · rw [updP_other pl _ e] at hq
        exact ⟨0, hq, by rw [if_neg e]⟩
    intro g u g' u' i j q q' hq hq' e
    obtain ⟨d, h1, hd⟩ := one g u i q hq
    obtain ⟨d', h2, hd'⟩ := one g' u' j q' hq'
    obtain ⟨rfl, rfl, e3⟩ := h.inj _ _ _ _ _ _ q q' h1 h2 e
    refine ⟨rfl, rfl, ?_⟩
    rw [← hd'] at hd
    omega
  · have hq' := sub g u q hq
    exact ⟨(h.lies g u q hq').1.turn (fun k hr _ => ⟨hr, hk k (h.lt k (.inr hr)) (fun e => h.sep k hr (e ▸ h.fm))⟩), (h.lies g u q hq').2⟩
end

end Go.Proofs.Ytjcfbnhmljlkpaa
