/- OrderP. -/
import Derived.Test.YtppgifaegnmciaaDoorM41
namespace Go.Proofs.YtppgifaegnmciaaDoor
open Go.RowKit

def GoodE (x : EP) : Prop := ¬ argBadP x 0 ∧ rightB x.2.1 = true
/-- a space behind puts of the entries d -/
structure OrdIs (d L : List EP) : Prop where
  srt : SrtL L
  mem : ∀ x, x ∈ L ↔ x ∈ d ∧ GoodE x
  len : L.length ≤ d.length
theorem ord_nil : OrdIs [] [] := by
  refine ⟨List.Pairwise.nil, fun x => ⟨fun h => ?_, fun h => ?_⟩, Nat.le_refl _⟩
  · cases h
  · cases h.1
theorem OrdIs.short {d L : List EP} (h : OrdIs d L) : ∀ x ∈ L, x.1.length ≤ 1024 := fun x hx => by
  have := ((h.mem x).1 hx).2.1
  unfold argBadP at this
  omega
theorem OrdIs.next {d L : List EP} (h : OrdIs d L) {x : EP} (hk : ∀ y ∈ d, y.1 ≠ x.1) (hd : d.length < 200) : OrdIs (d ++ [x]) (putLL L 1099511627776 0 x) := by
  have hn : getL x.1 L = none := getL_none.2 fun y hy => hk y ((h.mem y).1 hy).1
  have hl := h.len
  by_cases hg : GoodE x
  · have he : putEL L 1099511627776 0 x = 0 := by
      unfold putEL
      rw [if_neg hg.1, if_neg (by rw [hg.2]; decide), delL_none hn, hn, if_neg]
      rintro (⟨_, h⟩ | ⟨h', _⟩)
      · omega
      · have h1 := memL_le h.short
        have h2 := tkE_le (x := x) (by have := hg.1; unfold argBadP at this; omega)
        omega
    unfold putLL
    rw [if_pos he, insL_eq, delL_none hn]
    refine ⟨insR_srt h.srt (getL_none.1 hn), fun y => ?_, by rw [insR_len, List.length_append]; simp; omega⟩
    rw [insR_mem, h.mem, List.mem_append, List.mem_singleton]
    constructor
    · rintro (rfl | ⟨h1, h2⟩)
      · exact ⟨.inr rfl, hg⟩
      · exact ⟨.inl h1, h2⟩
    · rintro ⟨h1 | h1, h2⟩
      · exact .inr ⟨h1, h2⟩
      · exact .inl h1
  · have he : putEL L 1099511627776 0 x ≠ 0 := by
      unfold putEL
      by_cases h1 : argBadP x 0
      · rw [if_pos h1]; decide
      · have h2 : rightB x.2.1 = false := by
          cases hr : rightB x.2.1 with
          | false => rfl
          | true => exact absurd ⟨h1, hr⟩ hg
        rw [if_neg h1, if_pos h2]; decide
    unfold putLL
    rw [if_neg he]
    refine ⟨h.srt, fun y => ?_, by rw [List.length_append]; omega⟩
    rw [h.mem, List.mem_append, List.mem_singleton]
    constructor
    · rintro ⟨h1, h2⟩
      exact ⟨.inl h1, h2⟩
    · rintro ⟨h1 | h1, h2⟩
      · exact ⟨h1, h2⟩
      · exact absurd (h1 ▸ h2) hg
theorem srt_ext : ∀ {L M : List EP}, SrtL L → SrtL M → (∀ x, x ∈ L ↔ x ∈ M) → L = M
  | [], [], _, _, _ => rfl
  | [], y :: M, _, _, h => absurd ((h y).2 List.mem_cons_self) List.not_mem_nil
  | x :: L, [], _, _, h => absurd ((h x).1 List.mem_cons_self) List.not_mem_nil
  | x :: L, y :: M, h1, h2, h => by
    have a1 := List.pairwise_cons.1 h1
    have a2 := List.pairwise_cons.1 h2
    have e : x = y := by
      rcases List.mem_cons.1 ((h x).1 List.mem_cons_self) with e | hx
      · exact e
      · rcases List.mem_cons.1 ((h y).2 List.mem_cons_self) with e | hy
        · exact e.symm
        · exact absurd (a1.1 y hy) (fun h3 => (List.lt_irrefl x.1) (List.lt_trans h3 (a2.1 x hx)))
    subst e
    have : L = M := srt_ext a1.2 a2.2 fun z => by
      constructor
      · intro hz
        rcases List.mem_cons.1 ((h z).1 (List.mem_cons_of_mem _ hz)) with e | h3
        · exact absurd (a1.1 z hz) (by rw [e]; exact List.lt_irrefl _)
        · exact h3
      · intro hz
        rcases List.mem_cons.1 ((h z).2 (List.mem_cons_of_mem _ hz)) with e | h3
        · exact absurd (a2.1 z hz) (by rw [e]; exact List.lt_irrefl _)
        · exact h3
    rw [this]
theorem OrdIs.uniq {d d' L L' : List EP} (h : OrdIs d L) (h' : OrdIs d' L') (hd : ∀ x, x ∈ d ↔ x ∈ d') : L = L' := srt_ext h.srt h'.srt fun x => by rw [h.mem, h'.mem, hd]

end Go.Proofs.YtppgifaegnmciaaDoor
