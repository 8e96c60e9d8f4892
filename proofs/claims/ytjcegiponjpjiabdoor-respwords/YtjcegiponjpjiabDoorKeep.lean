/- The parser and its stream together: Par; keep; what is left of it behind one command. -/
import Derived.Test.YtjcegiponjpjiabDoorArgs
import Derived.Test.YtjcegiponjpjiabDoorModel
namespace Go.Proofs.YtjcegiponjpjiabDoor
open Go.RowKit

/-- a parser in block b: what it has of its stream, and its error -/
def Par (w : World) (b : Nat) (s : List UInt8) (e : Int) : Prop := ∃ v, Pars w b v e ∧ Strm w v s ∧ ∀ a n c, v = .slice (some a) n c → b < a.block
theorem Par.lt {w : World} {b : Nat} {s : List UInt8} {e : Int} (h : Par w b s e) : b < w.heap.size := by
  obtain ⟨v, h, _⟩ := h
  exact h.lt
theorem Strm.keep {w w' : World} {v : Value} {s : List UInt8} (h : Strm w v s) (hb : ∀ a n c, v = .slice (some a) n c → w'.heap[a.block]? = w.heap[a.block]?) : Strm w' v s := by
  obtain ⟨a, cap, rfl, h1, h2, h3⟩ := h
  refine ⟨a, cap, rfl, h1, h2, ?_⟩
  rcases h3 with h3 | ⟨g, off, cur, rfl, hg, r⟩
  · exact .inl h3
  · exact .inr ⟨g, off, cur, rfl, (hb _ _ _ rfl).trans hg, r⟩
theorem Par.below {w w' : World} {b : Nat} {s : List UInt8} {e : Int} (h : Par w b s e) (hb : Below w.heap.size w w') : Par w' b s e := by
  obtain ⟨v, h1, ⟨a, cap, rfl, q1, q2, q3⟩, h3⟩ := h
  refine ⟨_, h1.below hb, ⟨a, cap, rfl, q1, q2, ?_⟩, h3⟩
  rcases q3 with q3 | ⟨g, off, cur, rfl, hg, r⟩
  · exact .inl q3
  · exact .inr ⟨g, off, cur, rfl, (hb.block g (Array.getElem?_eq_some_iff.1 hg).1).trans hg, r⟩
theorem Par.still {w w' : World} {b : Nat} {s : List UInt8} {e : Int} (h : Par w b s e) (hs : Still w w') (hb : w'.heap[b]? = w.heap[b]?) : Par w' b s e := by
  obtain ⟨v, h1, ⟨a, cap, rfl, q1, q2, q3⟩, h3⟩ := h
  refine ⟨_, hb.trans h1, ⟨a, cap, rfl, q1, q2, ?_⟩, h3⟩
  rcases q3 with q3 | ⟨g, off, cur, rfl, hg, r⟩
  · exact .inl q3
  · exact .inr ⟨g, off, cur, rfl, hs g cur _ hg, r⟩
theorem strm_rest {w w' : World} {b : Nat} {a : Addr} {cap n : Nat} {s : List UInt8} (h : Strm w (.slice (some a) s.length cap) s) (hn : n ≤ s.length) (hb : b < a.block) (hO : Only b w w') : Strm w' (.slice (restAt (some a) cap (s.length - n)) n (cap - (s.length - n))) (s.drop (s.length - n)) ∧ ∀ a' n' c', (.slice (restAt (some a) cap (s.length - n)) n (cap - (s.length - n)) : Value) = .slice (some a') n' c' → b < a'.block := by
  obtain ⟨a1, cap1, e, h1, h2, h3⟩ := h
  injection e with e1 e2 e3
  subst e1
  subst e3
  have hl : (s.drop (s.length - n)).length = n := by simp; omega
  constructor
  · refine ⟨_, _, by rw [hl], by rw [hl]; omega, by omega, ?_⟩
    rcases h3 with h3 | ⟨g, off, cur, e, hg, hf, hc⟩
    · exact .inl (by omega)
    · injection e with e
      subst e
      by_cases hz : cap = s.length - n
      · exact .inl (by omega)
      · refine .inr ⟨g, off + (s.length - n), cur, by rw [restAt, if_neg hz]; simp [Go.WideShapes.add_plain], (hO.block g (Array.getElem?_eq_some_iff.1 hg).1 (Nat.ne_of_gt hb)).trans hg, by omega, fun i hi => ?_⟩
        rw [hl] at hi
        rw [Nat.add_assoc, hc (s.length - n + i) (by omega)]
        simp
  · intro a' n' c' e
    injection e with e _ _
    unfold restAt at e
    split at e
    · injection e with e; subst e; exact hb
    · simp at e
      subst e
      unfold Addr.add
      split
      · exact hb
      · exact hb
theorem keep_any (b : Nat) (s : List UInt8) (n c : Nat) (q : Option Addr) (f : Int) (w : World) (h : Par w b s f) (hn : n ≤ s.length) :
    Calls Tryd.prog 14 #[.pointer (some ⟨b, 0, none⟩), .slice q n c] w fun r w' => r = .returned (.tuple #[]) ∧ Hid (Par w' b (s.drop (s.length - n)) f ∧ Only b w w') := by
  obtain ⟨v, h1, h2, h3⟩ := h
  obtain ⟨a, cap, rfl, q1, q2, q3⟩ := id h2
  cases a with
  | none =>
    have hcap : cap = 0 := by
      rcases q3 with q3 | ⟨g, off, cur, e, _⟩
      · exact q3
      · cases e
    subst hcap
    obtain rfl : s = [] := List.eq_nil_of_length_eq_zero (by omega)
    obtain rfl : n = 0 := by simpa using hn
    refine (keep_none b c q f w h1).mono ?_
    rintro r w' ⟨rfl, hh⟩
    exact ⟨rfl, ⟨_, hh.out.1, Strm.nil _, fun a n c e => by cases e⟩, hh.out.2⟩
  | some a =>
    refine (keep_some b a s.length cap n c q f w h1 hn q1 (by unfold maxLen at q2; omega)).mono ?_
    rintro r w' ⟨rfl, hh⟩
    have hs := strm_rest h2 hn (h3 _ _ _ rfl) hh.out.2
    exact ⟨rfl, ⟨_, hh.out.1, hs.1, hs.2⟩, hh.out.2⟩
theorem bulk_suffix {s r : List UInt8} {a : List (List UInt8)} (h : bulk s = .got a r) : r <:+ s := by
  unfold bulk at h
  split at h
  · cases h
  · split at h
    · cases h
    · split at h
      · cases h
      · split at h
        · injection h with _ h
          subst h
          exact (List.drop_suffix _ _).trans (List.drop_suffix _ _)
        · cases h
theorem bulks_suffix : ∀ (n : Nat) {acc a : List (List UInt8)} {s r : List UInt8}, bulks n acc s = .got a r → r <:+ s
  | 0, acc, a, s, r, h => by unfold bulks at h; injection h with _ h; subst h; exact List.suffix_refl _
  | n + 1, acc, a, s, r, h => by
    unfold bulks at h
    split at h
    · cases h
    · rename_i a' r' hb
      exact (bulks_suffix n h).trans (bulk_suffix hb)
theorem one_suffix {s r : List UInt8} {l : List (List UInt8)} (h : one s = .got l r) : r <:+ s := by
  unfold one at h
  split at h
  · cases h
  · split at h
    · split at h
      · cases h
      · exact (bulks_suffix _ h).trans (List.drop_suffix _ _)
    · split at h
      · cases h
      · injection h with _ h
        subst h
        exact List.drop_suffix _ _

end Go.Proofs.YtjcegiponjpjiabDoor
