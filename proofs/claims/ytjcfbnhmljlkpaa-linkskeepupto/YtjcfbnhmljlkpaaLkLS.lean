/- Links in memory. -/
import Derived.Test.YtjcfbnhmljlkpaaLkTake
namespace Go.Proofs.Ytjcfbnhmljlkpaa
open Go.RowKit Go.Maps
open Go.WideElems (rd_key rg_of)
open Go.WideShapes (sorted_perm)

theorem OM.keys {w : World} {m n : Nat} {D : DataW Value} (h : OM w m n D) : ∃ es, D = .map es ∧ es.Pairwise (fun p q => p.1 ≠ q.1) ∧ ∀ p ∈ es, ∃ f t, IE f t ∧ p.1 = kl f t := by
  obtain ⟨es, clock, _, F, _, rfl⟩ := h
  refine ⟨_, rfl, ((sorted_perm _).pairwise_iff (fun {_ _} hne => Ne.symm hne)).2 (Maps.fit_apart keyed F), fun p hp => ?_⟩
  obtain ⟨x, hx, rfl⟩ := List.mem_map.1 (mem_sorted.1 hp)
  obtain ⟨y, hy⟩ := F.reads x hx
  rw [rg_of hy]
  obtain ⟨f, t, _, hi, e⟩ := key_inv (rd_key hy)
  exact ⟨f, t, hi, e⟩
theorem OM.tight {w : World} {m n : Nat} {D : DataW Value} (h : OM w m n D) : OM w m (Maps.size D) D := by
  obtain ⟨es, clock, hb, F, hs, rfl⟩ := h
  refine ⟨es, clock, hb, F, ?_, rfl⟩
  simp [Maps.size, length_sorted]
theorem nodup_len {α : Type} [DecidableEq α] : ∀ {a b : List α}, a.Nodup → (∀ x ∈ a, x ∈ b) → a.length ≤ b.length
  | [], _, _, _ => Nat.zero_le _
  | x :: a, b, hd, hs => by
    have hd' := List.nodup_cons.1 hd
    have hx := hs x (by simp)
    have := nodup_len (a := a) (b := b.erase x) hd'.2 (fun y hy => (List.mem_erase_of_ne (fun e => hd'.1 (by rw [← e]; exact hy))).2 (hs y (by simp [hy])))
    rw [List.length_erase_of_mem hx] at this
    have hp := List.length_pos_of_mem hx
    simp only [List.length_cons]
    omega
/-- the ends of a map's keys -/
theorem OM.ends {w : World} {m n : Nat} {D : DataW Value} (h : OM w m n D) : ∃ ks : List (Int × Int), ks.length = Maps.size D ∧ ks.Nodup ∧ ∀ q, q ∈ ks ↔ (IE q.1 q.2 ∧ Maps.has D (kl q.1 q.2) = true) := by
  obtain ⟨es, rfl, hp, hk⟩ := h.keys
  have main : ∀ es : List (Lit × DataW Value), es.Pairwise (fun p q => p.1 ≠ q.1) → (∀ p ∈ es, ∃ f t, IE f t ∧ p.1 = kl f t) → ∃ ks : List (Int × Int), ks.length = es.length ∧ ks.Nodup ∧ ∀ q, q ∈ ks ↔ (IE q.1 q.2 ∧ es.any (fun p => p.1.sameKey (kl q.1 q.2)) = true) := by
    intro es
    induction es with
    | nil => exact fun _ _ => ⟨[], rfl, List.nodup_nil, fun q => by simp⟩
    | cons p es ih =>
      intro hp hk
      obtain ⟨h1, h2⟩ := List.pairwise_cons.1 hp
      obtain ⟨ks, e1, e2, e3⟩ := ih h2 (fun x hx => hk x (by simp [hx]))
      obtain ⟨f, t, hi, e⟩ := hk p (by simp)
      refine ⟨(f, t) :: ks, by simp [e1], List.nodup_cons.2 ⟨fun hc => ?_, e2⟩, fun q => ?_⟩
      · obtain ⟨_, ha⟩ := (e3 (f, t)).1 hc
        obtain ⟨x, hx, hs⟩ := List.any_eq_true.1 ha
        exact h1 x hx (by rw [e, WideAt.sameKey_eq hs])
      · rw [List.mem_cons, e3, List.any_cons, Bool.or_eq_true]
        constructor
        · rintro (rfl | ⟨a, b⟩)
          · exact ⟨hi, .inl (by rw [e]; exact WideAt.sameKey_self (kl_key _ _))⟩
          · exact ⟨a, .inr b⟩
        · rintro ⟨a, b | b⟩
          · have := WideAt.sameKey_eq b
            rw [e] at this
            obtain ⟨x, y⟩ := kl_inj hi a this
            exact .inl (Prod.ext x.symm y.symm)
          · exact .inr ⟨a, b⟩
  exact main es hp hk

/-- links in memory: a map of rows by both ends -/
structure LS (w : World) (b m : Nat) (D : DataW Value) (pl : Int → Int → List Pc) (F R : Nat → Prop) (ws : List Wy) : Prop where
  blk : w.heap[b]? = some (.cells #[.map (some m)] 53 (0, 0))
  om : OM w m (Maps.size D) D
  fb : F b
  fm : F m
  chain : ∀ f t, Chain w (pl f t)
  que : ∀ f t, (pl f t).map Pc.x = onV ws f t
  val : ∀ f t, IE f t → D.atKey (kl f t) (.held zrow) = .held (rowOf (pl f t))
  has : ∀ f t, IE f t → Maps.has D (kl f t) = !(pl f t).isEmpty
  ie : ∀ f t, pl f t ≠ [] → IE f t
  inj : ∀ f t g u (i j : Nat) p q, (pl f t)[i]? = some p → (pl g u)[j]? = some q → p.b = q.b → f = g ∧ t = u ∧ i = j
  own : ∀ f t p, p ∈ pl f t → F p.b
  lies : ∀ f t p, p ∈ pl f t → LtR R w p.x p.ap p.rp ∧ FewL p.x
  lt : ∀ k, F k ∨ R k → k < w.heap.size
  sep : ∀ k, R k → ¬ F k
def LB (w : World) (b : Nat) (F R : Nat → Prop) (ws : List Wy) : Prop := ∃ m D pl, LS w b m D pl F R ws
section
variable {w : World} {b m : Nat} {D : DataW Value} {pl : Int → Int → List Pc} {F R : Nat → Prop} {ws : List Wy}
theorem LS.qlen (h : LS w b m D pl F R ws) (f t : Int) : (pl f t).length = (onV ws f t).length := by rw [← h.que, List.length_map]
theorem LS.empty_iff (h : LS w b m D pl F R ws) (f t : Int) : pl f t = [] ↔ onV ws f t = [] := by rw [← h.que, List.map_eq_nil_iff]
theorem LS.keep {w' : World} (h : LS w b m D pl F R ws) (hk : ∀ k, F k ∨ R k → w'.heap[k]? = w.heap[k]?) (hs : w.heap.size ≤ w'.heap.size) : LS w' b m D pl F R ws := by
  refine ⟨(hk b (.inl h.fb)).trans h.blk, ?_, h.fb, h.fm, fun f t => (h.chain f t).turn (fun p hp => hk _ (.inl (h.own f t p hp))), h.que, h.val, h.has, h.ie, h.inj, h.own, fun f t p hp => ⟨(h.lies f t p hp).1.turn (fun k hr _ => ⟨hr, hk k (.inr hr)⟩), (h.lies f t p hp).2⟩, fun k hf => Nat.lt_of_lt_of_le (h.lt k hf) hs, h.sep⟩
  obtain ⟨es, clock, hb, rest⟩ := h.om
  exact ⟨es, clock, (hk m (.inl h.fm)).trans hb, rest⟩
theorem LS.mb (h : LS w b m D pl F R ws) : m ≠ b := fun e => by
  obtain ⟨es, clock, hb, _⟩ := h.om
  rw [e, h.blk] at hb
  cases hb
theorem LS.ml (h : LS w b m D pl F R ws) : m < w.heap.size := h.lt m (.inl h.fm)
theorem LS.bl (h : LS w b m D pl F R ws) : b < w.heap.size := h.lt b (.inl h.fb)
theorem LS.pm (h : LS w b m D pl F R ws) {f t : Int} {p : Pc} (hp : p ∈ pl f t) : p.b ≠ m ∧ p.b ≠ b := by
  obtain ⟨n, hn⟩ := (h.chain f t).shape p hp
  constructor
  · intro e
    obtain ⟨es, clock, hb, _⟩ := h.om
    rw [← e, hn] at hb
    cases hb
  · intro e
    have hb := h.blk
    rw [← e, hn] at hb
    injection hb with hb
    injection hb with _ hb
    exact absurd hb (by decide)
theorem LS.size_le (h : LS w b m D pl F R ws) : Maps.size D ≤ ws.length := by
  obtain ⟨ks, e1, e2, e3⟩ := h.om.ends
  rw [← e1]
  refine Nat.le_trans (nodup_len (b := pairsV ws) e2 (fun q hq => ?_)) (pairsV_len ws)
  obtain ⟨hi, hh⟩ := (e3 q).1 hq
  rw [h.has q.1 q.2 hi] at hh
  rw [pairsV_mem, ne_eq, ← h.empty_iff]
  intro e
  rw [e] at hh
  cases hh
theorem LS.nodup (h : LS w b m D pl F R ws) (f t : Int) : ((pl f t).map Pc.b).Nodup := by
  have key := fun i j p q => h.inj f t f t i j p q
  generalize pl f t = l at key
  rw [List.nodup_iff_pairwise_ne, List.pairwise_map, List.pairwise_iff_getElem]
  intro i j hi hj hij e
  have := (key i j l[i] l[j] (List.getElem?_eq_getElem hi) (List.getElem?_eq_getElem hj) e).2.2
  omega
end

end Go.Proofs.Ytjcfbnhmljlkpaa
