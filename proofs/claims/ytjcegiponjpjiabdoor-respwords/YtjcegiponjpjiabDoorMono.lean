/- More bytes behind a stream do not change what was told: plain mathematics. -/
import Derived.Test.YtjcegiponjpjiabDoorEndWays
import Derived.Test.YtjcegiponjpjiabDoorOuts
namespace Go.Proofs.YtjcegiponjpjiabDoor

theorem line_app {s t : List UInt8} {k : Nat} (h : lineAt s = some k) : lineAt (s ++ t) = some k := by
  rcases lineAt_cases s with ⟨h', _⟩ | ⟨m, h', h5, h6, h7⟩
  · rw [h'] at h; cases h
  · rw [h'] at h
    injection h with h
    subst h
    obtain ⟨e1, e2⟩ := Lib.indexByte_some h5
    rw [take_at h7] at e1
    refine lineAt_some (by rw [List.getElem?_append_left h6]; exact e1) h7 fun j hj => ?_
    rw [List.getElem?_append_left (by omega), ← take_at (by omega)]
    exact e2 j hj
theorem line_app_none {s t : List UInt8} (h : lineAt s = none) (hl : 512 ≤ s.length) : lineAt (s ++ t) = none := by
  rcases lineAt_cases s with ⟨_, h'⟩ | ⟨m, h', _⟩
  · refine lineAt_none fun j hj => ?_
    rw [List.getElem?_append_left (by omega), ← take_at hj]
    exact Lib.indexByte_none h' j
  · rw [h'] at h; cases h
theorem noLine_app {s t : List UInt8} (h : noLine s ≠ -1) : noLine (s ++ t) = noLine s ∧ 512 ≤ s.length := by
  unfold noLine at h ⊢
  by_cases h5 : 512 ≤ s.length
  · rw [if_pos h5, if_pos (by rw [List.length_append]; omega)]; exact ⟨rfl, h5⟩
  · rw [if_neg h5] at h; exact absurd rfl h
theorem endVal_app {s t : List UInt8} {n : Nat} (h : endVal s n ≠ -1) : endVal (s ++ t) n = endVal s n := by
  have e0 : ∀ l : List UInt8, l.drop 0 = l := fun l => List.drop_zero
  have w1 := end_ways (s := s) (K := 0) (n := n) (M := n) (M1 := n + 1) (Nat.zero_le _) (by omega) rfl
  have w2 := end_ways (s := s ++ t) (K := 0) (n := n) (M := n) (M1 := n + 1) (Nat.zero_le _) (by omega) rfl
  rw [e0] at w1 w2
  have g : ∀ i (hi : i < s.length), (s ++ t)[i]'(by rw [List.length_append]; omega) = s[i] := fun i hi => List.getElem_append_left hi
  have hl : (s ++ t).length = s.length + t.length := List.length_append
  rcases w1 with ⟨_, v1⟩ | ⟨q1, a1, v1⟩ | ⟨_, _, _, v1⟩ | ⟨q1, a1, b1, v1⟩ | ⟨q1, a1, b1, v1⟩
  · exact absurd v1 h
  · rcases w2 with ⟨q2, v2⟩ | ⟨q2, a2, v2⟩ | ⟨q2, a2, _, v2⟩ | ⟨q2, a2, b2, v2⟩ | ⟨q2, a2, b2, v2⟩
    · omega
    · rw [v1, v2]
    · rw [g n q1] at a2; exact absurd a2 a1
    · rw [v1, v2]
    · rw [g n q1] at a2; exact absurd a2 a1
  · exact absurd v1 h
  · rcases w2 with ⟨q2, v2⟩ | ⟨q2, a2, v2⟩ | ⟨q2, a2, _, v2⟩ | ⟨q2, a2, b2, v2⟩ | ⟨q2, a2, b2, v2⟩
    · omega
    · rw [v1, v2]
    · omega
    · rw [v1, v2]
    · rw [g (n + 1) q1] at b2; exact absurd b2 b1
  · rcases w2 with ⟨q2, v2⟩ | ⟨q2, a2, v2⟩ | ⟨q2, a2, _, v2⟩ | ⟨q2, a2, b2, v2⟩ | ⟨q2, a2, b2, v2⟩
    · omega
    · rw [g n (by omega)] at a2; exact absurd a1 a2
    · omega
    · rw [g (n + 1) q1] at b2; exact absurd b1 b2
    · rw [v1, v2]
theorem take_app {s t : List UInt8} {k : Nat} (h : k ≤ s.length) : (s ++ t).take k = s.take k := List.take_append_of_le_length h
theorem drop_app {s t : List UInt8} {k : Nat} (h : k ≤ s.length) : (s ++ t).drop k = s.drop k ++ t := List.drop_append_of_le_length h
theorem head_app {s t : List UInt8} (h : s ≠ []) : (s ++ t).head? = s.head? := by cases s with | nil => exact absurd rfl h | cons x r => rfl
/-- what is told of a longer stream -/
def Res.more (t : List UInt8) : Res → Res
  | .stop e => .stop e
  | .got l r => .got l (r ++ t)
theorem bulk_app {s t : List UInt8} (h : bulk s ≠ .stop (-1)) : bulk (s ++ t) = (bulk s).more t := by
  by_cases hs : s = []
  · subst hs
    exact absurd (by kernel_rfl) h
  · have hne : s ++ t ≠ [] := fun e => hs (List.append_eq_nil_iff.1 e).1
    unfold bulk at h ⊢
    rw [head_app hs]
    by_cases h1 : s ≠ [] ∧ s.head? ≠ some 36
    · rw [if_pos h1, if_pos ⟨hne, h1.2⟩]; rfl
    · have h2 : ¬ (s ++ t ≠ [] ∧ s.head? ≠ some 36) := fun e => h1 ⟨hs, e.2⟩
      rw [if_neg h1] at h ⊢
      rw [if_neg h2]
      cases hl : lineAt s with
      | none =>
        rw [hl] at h
        simp only at h
        obtain ⟨n1, n2⟩ := noLine_app (t := t) (fun e => h (by rw [e]))
        rw [line_app_none hl n2, n1]
        rfl
      | some k =>
        rw [hl] at h
        simp only at h
        rw [line_app hl]
        have hk := (line_last hl).1
        simp only
        rw [take_app (by omega), drop_app (by omega)]
        cases hn : num (s.take (k + 1)) 1024 with
        | none => rfl
        | some n =>
          rw [hn] at h
          simp only at h ⊢
          by_cases he : endVal (s.drop (k + 1)) n = 0
          · have he2 := endVal_app (t := t) (s := s.drop (k + 1)) (n := n) (by rw [he]; decide)
            have hz := endVal_zero he
            rw [he2, if_pos he, if_pos he]
            unfold Res.more
            rw [take_app (by omega), drop_app (by omega)]
          · rw [if_neg he] at h
            have he2 := endVal_app (t := t) (s := s.drop (k + 1)) (n := n) (fun e => h (by rw [e]))
            rw [he2, if_neg he, if_neg he]
            rfl
theorem bulks_app : ∀ (n : Nat) (acc : List (List UInt8)) (s t : List UInt8), bulks n acc s ≠ .stop (-1) → bulks n acc (s ++ t) = (bulks n acc s).more t
  | 0, acc, s, t, _ => rfl
  | n + 1, acc, s, t, h => by
    unfold bulks at h ⊢
    have hb : bulk s ≠ .stop (-1) := fun e => by rw [e] at h; exact h rfl
    rw [bulk_app hb]
    cases hk : bulk s with
    | stop e => rfl
    | got a r =>
      rw [hk] at h
      exact bulks_app n (acc ++ a) r t h
theorem one_app {s t : List UInt8} (h : one s ≠ .stop (-1)) : one (s ++ t) = (one s).more t := by
  by_cases hs : s = []
  · subst hs
    exact absurd (by kernel_rfl) h
  · unfold one at h ⊢
    rw [head_app hs]
    cases hl : lineAt s with
    | none =>
      rw [hl] at h
      simp only at h
      obtain ⟨n1, n2⟩ := noLine_app (t := t) (fun e => h (by rw [e]))
      rw [line_app_none hl n2, n1]
      rfl
    | some k =>
      rw [hl] at h
      simp only at h
      rw [line_app hl]
      have hk := (line_last hl).1
      simp only
      rw [take_app (by omega), drop_app (by omega)]
      by_cases h42 : s.head? = some 42
      · rw [if_pos h42] at h ⊢
        rw [if_pos h42]
        cases hn : num (s.take (k + 1)) 32 with
        | none => rfl
        | some n =>
          rw [hn] at h
          exact bulks_app n [] _ t h
      · rw [if_neg h42, if_neg h42]
        by_cases h32 : 32 < (words (s.take (k + 1))).length
        · rw [if_pos h32, if_pos h32]; rfl
        · rw [if_neg h32, if_neg h32]; rfl
theorem one_app_got {s t r : List UInt8} {l : List (List UInt8)} (h : one s = .got l r) : one (s ++ t) = .got l (r ++ t) := by
  rw [one_app (by rw [h]; intro e; cases e), h]; rfl
theorem one_app_stop {s t : List UInt8} {e : Int} (h : one s = .stop e) (he : e ≠ -1) : one (s ++ t) = .stop e := by
  rw [one_app (by rw [h]; intro x; injection x with x; exact he x), h]; rfl
/-- a stream that goes on -/
theorem Runs.app {S s' t : List UInt8} {c : List (List (List UInt8))} {e : Int} (h : Runs S c s' e) (he : e = 0) {c2 : List (List (List UInt8))} {s2 : List UInt8} {e2 : Int} (h2 : Runs (s' ++ t) c2 s2 e2) : Runs (S ++ t) (c ++ c2) s2 e2 := by
  induction h with
  | more h => exact h2
  | bad h h1 => exact absurd he (one_stop h)
  | skip h _ ih => exact .skip (one_app_got h) (ih he h2)
  | some h hl _ ih => exact .some (one_app_got h) hl (ih he h2)
theorem Runs.bad_app {S s' t : List UInt8} {c : List (List (List UInt8))} {e : Int} (h : Runs S c s' e) (he : e ≠ 0) : Runs (S ++ t) c [] e := by
  induction h with
  | more h => exact absurd rfl he
  | bad h h1 => exact .bad (one_app_stop h h1) h1
  | skip h _ ih => exact .skip (one_app_got h) (ih he)
  | some h hl _ ih => exact .some (one_app_got h) hl (ih he)

end Go.Proofs.YtjcegiponjpjiabDoor
