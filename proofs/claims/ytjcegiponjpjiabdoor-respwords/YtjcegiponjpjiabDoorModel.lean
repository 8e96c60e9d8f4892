/- One command of a stream, the next one, and all of them: plain mathematics on lists of bytes. -/
import Derived.Test.YtjcegiponjpjiabDoorFields
import Derived.Test.YtjcegiponjpjiabDoorRefLine
namespace Go.Proofs.YtjcegiponjpjiabDoor

/-- what is told: an error (-1: not all of it is there), or arguments and what stands behind them -/
inductive Res where
  | stop (e : Int)
  | got (args : List (List UInt8)) (rest : List UInt8)
/-- there is no line -/
def noLine (s : List UInt8) : Int := if 512 ≤ s.length then 33 else -1
/-- an argument -/
def bulk (s : List UInt8) : Res :=
  if s ≠ [] ∧ s.head? ≠ some 36 then .stop 31
  else match lineAt s with
  | none => .stop (noLine s)
  | some k => match num (s.take (k + 1)) 1024 with
    | none => .stop 32
    | some n => if endVal (s.drop (k + 1)) n = 0 then .got [(s.drop (k + 1)).take n] ((s.drop (k + 1)).drop (n + 2)) else .stop (endVal (s.drop (k + 1)) n)
/-- so many arguments more -/
def bulks : Nat → List (List UInt8) → List UInt8 → Res
  | 0, acc, s => .got acc s
  | n + 1, acc, s => match bulk s with
    | .stop e => .stop e
    | .got a r => bulks n (acc ++ a) r
/-- one command, perhaps without arguments -/
def one (s : List UInt8) : Res := match lineAt s with
  | none => .stop (noLine s)
  | some k => if s.head? = some 42 then (match num (s.take (k + 1)) 32 with
      | none => .stop 30
      | some n => bulks n [] (s.drop (k + 1)))
    else if 32 < (words (s.take (k + 1))).length then .stop 30 else .got (words (s.take (k + 1))) (s.drop (k + 1))
/-- the next command that has arguments: it, what is left, and what is amiss -/
inductive Nxt : List UInt8 → Option (List (List UInt8)) → List UInt8 → Int → Prop where
  | more {s : List UInt8} : one s = .stop (-1) → Nxt s none s 0
  | bad {s : List UInt8} {e : Int} : one s = .stop e → e ≠ -1 → Nxt s none [] e
  | skip {s r s' : List UInt8} {o : Option (List (List UInt8))} {e : Int} : one s = .got [] r → Nxt r o s' e → Nxt s o s' e
  | some {s r : List UInt8} {l : List (List UInt8)} : one s = .got l r → l ≠ [] → Nxt s (some l) r 0
/-- all commands, what is left, and what is amiss -/
inductive Runs : List UInt8 → List (List (List UInt8)) → List UInt8 → Int → Prop where
  | more {s : List UInt8} : one s = .stop (-1) → Runs s [] s 0
  | bad {s : List UInt8} {e : Int} : one s = .stop e → e ≠ -1 → Runs s [] [] e
  | skip {s r s' : List UInt8} {c : List (List (List UInt8))} {e : Int} : one s = .got [] r → Runs r c s' e → Runs s c s' e
  | some {s r s' : List UInt8} {l : List (List UInt8)} {c : List (List (List UInt8))} {e : Int} : one s = .got l r → l ≠ [] → Runs r c s' e → Runs s (l :: c) s' e

theorem endVal_zero {s : List UInt8} {n : Nat} (h : endVal s n = 0) : ¬ s.length < n + 2 := by
  intro h2
  by_cases h1 : s.length < n
  · rw [endVal_short h1] at h; cases h
  · cases hp : Lib.hasPrefix [13, 10] ((s.drop n).take 2)
    · rw [endVal_bad h1 hp] at h; cases h
    · rw [endVal_more h1 hp h2] at h; cases h
theorem bulk_rest {s r : List UInt8} {a : List (List UInt8)} (h : bulk s = .got a r) : r.length < s.length ∧ a.length = 1 := by
  unfold bulk at h
  split at h
  · cases h
  · split at h
    · cases h
    · rename_i k hk
      split at h
      · cases h
      · split at h
        · rename_i n _ he
          have := endVal_zero he
          injection h with h1 h2
          subst h1
          subst h2
          simp at this ⊢
          rcases lineAt_cases s with ⟨h, _⟩ | ⟨m, h, _, h2, _⟩
          · rw [h] at hk; cases hk
          · rw [h] at hk; injection hk with hk; omega
        · cases h
theorem bulks_rest : ∀ (n : Nat) {acc a : List (List UInt8)} {s r : List UInt8}, bulks n acc s = .got a r → r.length ≤ s.length ∧ a.length = acc.length + n
  | 0, acc, a, s, r, h => by unfold bulks at h; injection h with h1 h2; subst h1; subst h2; simp
  | n + 1, acc, a, s, r, h => by
    unfold bulks at h
    split at h
    · cases h
    · rename_i a' r' hb
      have h1 := bulk_rest hb
      have h2 := bulks_rest n h
      simp at h2
      omega
theorem one_rest {s r : List UInt8} {l : List (List UInt8)} (h : one s = .got l r) : r.length < s.length := by
  unfold one at h
  split at h
  · cases h
  · rename_i k hk
    have hlt : k < s.length := by
      rcases lineAt_cases s with ⟨h, _⟩ | ⟨m, h, _, h2, _⟩
      · rw [h] at hk; cases hk
      · rw [h] at hk; injection hk with hk; omega
    split at h
    · split at h
      · cases h
      · have := (bulks_rest _ h).1
        simp at this
        omega
    · split at h
      · cases h
      · injection h with h1 h2
        subst h2
        simp
        omega
theorem Nxt.len {s s' : List UInt8} {o : Option (List (List UInt8))} {e : Int} (h : Nxt s o s' e) : s'.length ≤ s.length := by
  induction h with
  | more h => exact Nat.le_refl _
  | bad h _ => simp
  | skip h _ ih => have := one_rest h; omega
  | some h _ => have := one_rest h; omega
theorem nxt_ex : ∀ (n : Nat) (s : List UInt8), s.length ≤ n → ∃ o s' e, Nxt s o s' e := by
  intro n
  induction n with
  | zero =>
    intro s hs
    cases h : one s with
    | stop e =>
      by_cases he : e = -1
      · subst he; exact ⟨_, _, _, .more h⟩
      · exact ⟨_, _, _, .bad h he⟩
    | got l r => have := one_rest h; omega
  | succ n ih =>
    intro s hs
    cases h : one s with
    | stop e =>
      by_cases he : e = -1
      · subst he; exact ⟨_, _, _, .more h⟩
      · exact ⟨_, _, _, .bad h he⟩
    | got l r =>
      by_cases hl : l = []
      · subst hl
        obtain ⟨o, s', e, hn⟩ := ih r (by have := one_rest h; omega)
        exact ⟨o, s', e, .skip h hn⟩
      · exact ⟨_, _, _, .some h hl⟩
theorem runs_ex : ∀ (n : Nat) (s : List UInt8), s.length ≤ n → ∃ c s' e, Runs s c s' e ∧ c.length ≤ s.length := by
  intro n
  induction n with
  | zero =>
    intro s hs
    cases h : one s with
    | stop e =>
      by_cases he : e = -1
      · subst he; exact ⟨_, _, _, .more h, by simp⟩
      · exact ⟨_, _, _, .bad h he, by simp⟩
    | got l r => have := one_rest h; omega
  | succ n ih =>
    intro s hs
    cases h : one s with
    | stop e =>
      by_cases he : e = -1
      · subst he; exact ⟨_, _, _, .more h, by simp⟩
      · exact ⟨_, _, _, .bad h he, by simp⟩
    | got l r =>
      have hr := one_rest h
      obtain ⟨c, s', e, hn, hc⟩ := ih r (by omega)
      by_cases hl : l = []
      · subst hl
        exact ⟨c, s', e, .skip h hn, by omega⟩
      · exact ⟨_, _, _, .some h hl hn, by simp; omega⟩
theorem Runs.det {s s' s'' : List UInt8} {c c' : List (List (List UInt8))} {e e' : Int} (h : Runs s c s' e) (h2 : Runs s c' s'' e') : c = c' ∧ s' = s'' ∧ e = e' := by
  induction h generalizing c' s'' e' with
  | more h =>
    cases h2 with
    | more h2 => exact ⟨rfl, rfl, rfl⟩
    | bad h2 he => rw [h] at h2; injection h2 with h2; exact absurd h2.symm he
    | skip h2 _ => rw [h] at h2; cases h2
    | some h2 _ _ => rw [h] at h2; cases h2
  | bad h he =>
    cases h2 with
    | more h2 => rw [h] at h2; injection h2 with h2; exact absurd h2 he
    | bad h2 he => rw [h] at h2; injection h2 with h2; exact ⟨rfl, rfl, h2⟩
    | skip h2 _ => rw [h] at h2; cases h2
    | some h2 _ _ => rw [h] at h2; cases h2
  | skip h _ ih =>
    cases h2 with
    | more h2 => rw [h] at h2; cases h2
    | bad h2 he => rw [h] at h2; cases h2
    | skip h2 h3 => rw [h] at h2; injection h2 with _ h2; subst h2; exact ih h3
    | some h2 hl _ => rw [h] at h2; injection h2 with h2 _; exact absurd h2.symm hl
  | some h hl _ ih =>
    cases h2 with
    | more h2 => rw [h] at h2; cases h2
    | bad h2 he => rw [h] at h2; cases h2
    | skip h2 h3 => rw [h] at h2; injection h2 with h2 _; exact absurd h2 hl
    | some h2 hl2 h3 =>
      rw [h] at h2
      injection h2 with h2 h4
      subst h2
      subst h4
      obtain ⟨a, b, c⟩ := ih h3
      exact ⟨by rw [a], b, c⟩
/-- all commands, from the next one on -/
theorem Nxt.none_runs {s s' : List UInt8} {o : Option (List (List UInt8))} {e : Int} (h : Nxt s o s' e) (ho : o = none) : Runs s [] s' e := by
  induction h with
  | more h => exact .more h
  | bad h he => exact .bad h he
  | skip h _ ih => exact .skip h (ih ho)
  | some h _ => cases ho
theorem Nxt.some_runs {s s' : List UInt8} {o : Option (List (List UInt8))} {l : List (List UInt8)} {e : Int} (h : Nxt s o s' e) (ho : o = Option.some l) {c : List (List (List UInt8))} {s'' : List UInt8} {e' : Int} (hr : Runs s' c s'' e') : e = 0 ∧ Runs s (l :: c) s'' e' := by
  induction h with
  | more h => cases ho
  | bad h he => cases ho
  | skip h _ ih => exact ⟨(ih ho hr).1, .skip h (ih ho hr).2⟩
  | some h hl => injection ho with ho; subst ho; exact ⟨rfl, .some h hl hr⟩
/-- what a run begins with -/
theorem Runs.next {s s' : List UInt8} {c : List (List (List UInt8))} {e : Int} (h : Runs s c s' e) : (c = [] ∧ Nxt s none s' e) ∨ ∃ l c' r, c = l :: c' ∧ Nxt s (Option.some l) r 0 ∧ Runs r c' s' e := by
  induction h with
  | more h => exact .inl ⟨rfl, .more h⟩
  | bad h he => exact .inl ⟨rfl, .bad h he⟩
  | skip h _ ih =>
    rcases ih with ⟨h1, h2⟩ | ⟨l, c', r, h1, h2, h3⟩
    · exact .inl ⟨h1, .skip h h2⟩
    · exact .inr ⟨l, c', r, h1, .skip h h2, h3⟩
  | some h hl hr _ => exact .inr ⟨_, _, _, rfl, .some h hl, hr⟩
theorem Nxt.det {s s' s'' : List UInt8} {o o' : Option (List (List UInt8))} {e e' : Int} (h : Nxt s o s' e) (h2 : Nxt s o' s'' e') : o = o' ∧ s' = s'' ∧ e = e' := by
  induction h generalizing o' s'' e' with
  | more h =>
    cases h2 with
    | more h2 => exact ⟨rfl, rfl, rfl⟩
    | bad h2 he => rw [h] at h2; injection h2 with h2; exact absurd h2.symm he
    | skip h2 _ => rw [h] at h2; cases h2
    | some h2 _ => rw [h] at h2; cases h2
  | bad h he =>
    cases h2 with
    | more h2 => rw [h] at h2; injection h2 with h2; exact absurd h2 he
    | bad h2 he => rw [h] at h2; injection h2 with h2; exact ⟨rfl, rfl, h2⟩
    | skip h2 _ => rw [h] at h2; cases h2
    | some h2 _ => rw [h] at h2; cases h2
  | skip h _ ih =>
    cases h2 with
    | more h2 => rw [h] at h2; cases h2
    | bad h2 he => rw [h] at h2; cases h2
    | skip h2 h3 => rw [h] at h2; injection h2 with _ h2; subst h2; exact ih h3
    | some h2 hl => rw [h] at h2; injection h2 with h2 _; exact absurd h2.symm hl
  | some h hl =>
    cases h2 with
    | more h2 => rw [h] at h2; cases h2
    | bad h2 he => rw [h] at h2; cases h2
    | skip h2 h3 => rw [h] at h2; injection h2 with h2 _; exact absurd h2 hl
    | some h2 hl2 => rw [h] at h2; injection h2 with h2 h4; exact ⟨by rw [h2], h4, rfl⟩

end Go.Proofs.YtjcegiponjpjiabDoor
