/- Ranges over links' map; what is as long as what. -/
import Derived.Test.YtjcfbnhmljlkpaaLkNext
namespace Go.Proofs.Ytjcfbnhmljlkpaa
open Go.RowKit Go.Maps

abbrev RG (w : World) (m r n : Nat) (D : DataW Value) (left : Lit → Bool) (cnt : Nat) : Prop := w.ranges Try.prog 41 Rv m r n D left cnt
theorem RG.keep {w w' : World} {m r n : Nat} {D : DataW Value} {left : Lit → Bool} {cnt : Nat} (h : RG w m r n D left cnt) (hm : w'.heap[m]? = w.heap[m]?) (hr : w'.heap[r]? = w.heap[r]?) : RG w' m r n D left cnt := by
  obtain ⟨es, clock, since, seen, c0, hb, F, hs, hD, hi, rest⟩ := h
  exact ⟨es, clock, since, seen, c0, hm.trans hb, F, hs, hD, hr.trans hi, rest⟩
theorem RG.lt {w : World} {m r n : Nat} {D : DataW Value} {left : Lit → Bool} {cnt : Nat} (h : RG w m r n D left cnt) : m < w.heap.size ∧ r < w.heap.size := by
  obtain ⟨es, clock, since, seen, c0, hb, F, hs, hD, hi, rest⟩ := h
  exact ⟨(Array.getElem?_eq_some_iff.1 hb).1, (Array.getElem?_eq_some_iff.1 hi).1⟩
theorem RG.below {w w' : World} {m r n : Nat} {D : DataW Value} {left : Lit → Bool} {cnt : Nat} (h : RG w m r n D left cnt) (hb : Below w.heap.size w w') : RG w' m r n D left cnt :=
  h.keep (hb.block _ h.lt.1) (hb.block _ h.lt.2)
set_option maxRecDepth 100000 in
/-- the step, where what each key holds is known -/
theorem wpList_next_rows (w : World) {ops : Array Oper} {rest : List Oper} {o : Oper} {a : Act} {Q : Exit → Act → World → Prop} (hg : o.guard = none) (it : Operand) (hop : o.op = Op.next it false) (m r n : Nat) (D : DataW Value) (left : Lit → Bool) (cnt : Nat)
    (A Z : Int → Int → Option Addr) (N : Int → Int → Int) (hv : ∀ f t, IE f t → D.atKey (kl f t) (.held zrow) = .held (.agg #[.pointer (A f t), .pointer (Z f t), .int .i64 (N f t)]))
    (hit : a.eval it = .pointer (some ⟨r, 0, none⟩)) (h : RG w m r n D left cnt)
    (hDone : cnt = 0 → (∀ k, left k = false) → wpList Try.prog ops Q rest (a.put o.dst (.tuple #[.bool false])) w)
    (hMore : ∀ (f t : Int) (w' : World) (cnt' : Nat), IE f t → left (kl f t) = true → RG w' m r n D (fun z => left z && !z.sameKey (kl f t)) cnt' → cnt' < cnt → w.grownBy w' (some r) → w'.heap.size = w.heap.size →
      (Instr.entry (.pointer (some ⟨r, 0, none⟩))).run Try.prog w' = .ok (.tuple #[.agg #[.int .i64 f, .int .i64 t], .agg #[.pointer (A f t), .pointer (Z f t), .int .i64 (N f t)]]) w' →
      wpList Try.prog ops Q rest (a.put o.dst (.tuple #[.bool true, .agg #[.int .i64 f, .int .i64 t], .agg #[.pointer (A f t), .pointer (Z f t), .int .i64 (N f t)]])) w') :
    wpList Try.prog ops Q (o :: rest) a w := by
  refine wpList_next_ranges w hg it hop 41 keyed Rv (fun q : Int × Int => key q.1 q.2) id (fun k l hk => ?_) (fun v _ _ => ⟨v, rfl⟩) m r n D left cnt hit h hDone ?_
  · obtain ⟨f, t, e, _⟩ := key_inv hk
    exact ⟨(f, t), e⟩
  · rintro ⟨f, t⟩ c k y w' cnt' hk hl hc hat hrg hlt hgr hsz hen
    obtain ⟨f', t', e, hi, rfl⟩ := key_inv hk
    simp only [key, Value.agg.injEq, Array.mk.injEq, List.cons.injEq, Value.int.injEq, true_and, and_true] at e
    obtain ⟨rfl, rfl⟩ := e
    have h1 := hat (.held zrow)
    rw [hv f t hi] at h1
    simp only [id, Rv, Option.some.injEq] at hc
    subst hc
    injection h1 with h1
    subst h1
    exact hMore f t w' cnt' hi hl hrg hlt hgr hsz hen
theorem cutV_len1 {l : List Wy} {f t : Int} (h : onV l f t ≠ []) : (cutV l f t).length + 1 = l.length := by
  induction l with
  | nil => exact absurd rfl h
  | cons y l ih =>
    simp only [onV, cutV] at h ⊢
    by_cases hy : isOn f t y = true
    · rw [if_pos hy]; rfl
    · rw [if_neg hy] at h ⊢
      simp only [List.length_cons]
      rw [ih h]
/-- no more on each link: no more in all -/
theorem len_le : ∀ (a b : List Wy), (∀ f t, (onV a f t).length ≤ (onV b f t).length) → a.length ≤ b.length
  | [], _, _ => Nat.zero_le _
  | y :: a, b, h => by
    have hy : isOn y.frm y.dst y = true := by simp [isOn]
    have h0 := h y.frm y.dst
    simp only [onV, if_pos hy, List.length_cons] at h0
    have hne : onV b y.frm y.dst ≠ [] := fun e => by rw [e] at h0; simp at h0
    have := len_le a (cutV b y.frm y.dst) (fun f t => by
      rw [onV_cut]
      have h1 := h f t
      by_cases e : f = y.frm ∧ t = y.dst
      · obtain ⟨rfl, rfl⟩ := e
        rw [if_pos ⟨rfl, rfl⟩, List.length_tail]
        omega
      · rw [if_neg e]
        have hn : isOn f t y = false := by
          cases e2 : isOn f t y with
          | false => rfl
          | true =>
            simp only [isOn, Bool.and_eq_true, decide_eq_true_eq] at e2
            exact absurd ⟨e2.1.symm, e2.2.symm⟩ e
        simp only [onV, hn] at h1
        exact h1)
    have := cutV_len1 hne
    simp only [List.length_cons]
    omega
theorem LB.congr {w : World} {b : Nat} {F R : Nat → Prop} {ws ws' : List Wy} (h : LB w b F R ws) (he : ∀ f t, onV ws f t = onV ws' f t) : LB w b F R ws' := by
  obtain ⟨m, D, pl, h⟩ := h
  exact ⟨m, D, pl, { h with que := fun f t => (h.que f t).trans (he f t) }⟩
theorem LB.lt {w : World} {b : Nat} {F R : Nat → Prop} {ws : List Wy} (h : LB w b F R ws) : ∀ k, F k ∨ R k → k < w.heap.size := by
  obtain ⟨m, D, pl, h⟩ := h
  exact h.lt
theorem LB.keep {w w' : World} {b : Nat} {F R : Nat → Prop} {ws : List Wy} (h : LB w b F R ws) (hk : ∀ k, F k ∨ R k → w'.heap[k]? = w.heap[k]?) (hs : w.heap.size ≤ w'.heap.size) : LB w' b F R ws := by
  obtain ⟨m, D, pl, h⟩ := h
  exact ⟨m, D, pl, h.keep hk hs⟩
theorem LB.below {w w' : World} {b : Nat} {F R : Nat → Prop} {ws : List Wy} (h : LB w b F R ws) (hb : Below w.heap.size w w') : LB w' b F R ws := h.keep (fun k hk => hb.block k (h.lt k hk)) hb.size
theorem LB.ends {w : World} {b : Nat} {F R : Nat → Prop} {ws : List Wy} (h : LB w b F R ws) (f t : Int) (hn : onV ws f t ≠ []) : IE f t := by
  obtain ⟨m, D, pl, h⟩ := h
  exact h.ie f t (fun e => hn ((h.empty_iff f t).1 e))

end Go.Proofs.Ytjcfbnhmljlkpaa
