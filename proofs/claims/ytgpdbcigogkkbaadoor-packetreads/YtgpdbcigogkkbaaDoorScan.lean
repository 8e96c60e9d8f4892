/- How ref Parse scans a text for numbers: plain mathematics on lists of bytes; nothing of the program. -/
import Derived.Test.YtgpdbcigogkkbaaDoorText
namespace Go.Proofs.YtgpdbcigogkkbaaDoor
namespace Slot

/-- a digit -/
def isDig (c : UInt8) : Bool := decide (48 ≤ c.toNat ∧ c.toNat ≤ 57)
/-- digits read on, with what is left -/
def numGo : Nat → List UInt8 → Nat × List UInt8
  | n, [] => (n, [])
  | n, c :: l => if isDig c = true ∧ n < 100000 then numGo (n * 10 + (c.toNat - 48)) l else (n, c :: l)
theorem numGo_dec (m : Nat) : ∀ r, m < 100000 → numGo 0 (dec m ++ r) = numGo m r := by
  induction m using Nat.strongRecOn with
  | ind m ih =>
    intro r hm
    by_cases h10 : m < 10
    · have e : dec m = [UInt8.ofNat (48 + m)] := Lib.decDigits_one h10
      have hc : (UInt8.ofNat (48 + m)).toNat = 48 + m := by rw [UInt8.toNat_ofNat']; omega
      rw [e]
      simp only [List.singleton_append, numGo]
      rw [if_pos ⟨by unfold isDig; rw [hc]; simp; omega, by omega⟩, hc]
      congr 1; omega
    · have e : dec m = dec (m / 10) ++ [UInt8.ofNat (48 + m % 10)] := by unfold dec; rw [Lib.decDigits, dif_neg h10]
      have hc : (UInt8.ofNat (48 + m % 10)).toNat = 48 + m % 10 := by rw [UInt8.toNat_ofNat']; omega
      rw [e, List.append_assoc, ih (m / 10) (by omega) _ (by omega)]
      simp only [List.singleton_append, numGo]
      rw [if_pos ⟨by unfold isDig; rw [hc]; simp; omega, by omega⟩, hc]
      congr 1; omega
/-- no digit is next -/
def Ends (r : List UInt8) : Prop := ∀ c r', r = c :: r' → isDig c = false
theorem numGo_ends {m : Nat} {r : List UInt8} (h : Ends r) : numGo m r = (m, r) := by
  cases r with
  | nil => rfl
  | cons c r => simp [numGo, h c r rfl]
theorem numGo_num {m : Nat} {r : List UInt8} (hm : m < 100000) (h : Ends r) : numGo 0 (dec m ++ r) = (m, r) := by
  rw [numGo_dec m r hm, numGo_ends h]
/-- what stands behind a piece -/
def tailOf (l : List (Nat × Nat)) : List UInt8 := if l = [] then [] else 32 :: print l
theorem tail_ends (l : List (Nat × Nat)) : Ends (tailOf l) := fun c r h => by
  unfold tailOf at h
  split at h
  · cases h
  · injection h with h1 _; subst h1; rfl
theorem print_tail (p : Nat × Nat) (l : List (Nat × Nat)) : print (p :: l) = piece p ++ tailOf l := by
  unfold tailOf
  split
  · rename_i h; subst h; simp [print]
  · rename_i h; exact print_cons p l h
theorem tail_drop (l : List (Nat × Nat)) : (tailOf l).drop 1 = print l := by
  unfold tailOf
  split
  · rename_i h; subst h; rfl
  · rfl
/-- where a scan of print L stands at i, l being told -/
def Good (s : List UInt8) (i : Nat) (l L : List (Nat × Nat)) : Prop :=
  (∃ L2, L = l ++ L2 ∧ s.drop i = print L2 ∧ (i = 0 ∨ s[i - 1]? = some 32 ∨ L2 = [])) ∨
  (∃ L1 f t L2, L = L1 ++ (f, t) :: L2 ∧ l = L1 ++ [(f, f)] ∧ 0 < i ∧ s[i - 1]? = some 45 ∧ s.drop i = dec t ++ tailOf L2)
theorem good_first (L : List (Nat × Nat)) : Good (print L) 0 [] L := .inl ⟨L, rfl, rfl, .inl rfl⟩
theorem good_last {s : List UInt8} {i : Nat} {l L : List (Nat × Nat)} (h : Good s i l L) (hi : s.length ≤ i) : l = L := by
  have hd : s.drop i = [] := List.drop_eq_nil_of_le hi
  rcases h with ⟨L2, h1, h2, _⟩ | ⟨L1, f, t, L2, _, _, _, _, h2⟩
  · rw [hd] at h2
    have : L2 = [] := Classical.byContradiction fun e => print_ne e h2.symm
    rw [h1, this, List.append_nil]
  · rw [hd] at h2
    exact absurd (List.append_eq_nil_iff.1 h2.symm).1 (dec_ne t)
/-- the last range's end is put -/
def setLast (l : List (Nat × Nat)) (n : Nat) : List (Nat × Nat) := match l.reverse with
  | [] => []
  | p :: r => r.reverse ++ [(p.1, n)]
theorem setLast_snoc (l : List (Nat × Nat)) (f t n : Nat) : setLast (l ++ [(f, t)]) n = l ++ [(f, n)] := by
  simp [setLast]
theorem drop_next {s : List UInt8} {k : Nat} {c : UInt8} {r : List UInt8} (h : s.drop k = c :: r) : s[k]? = some c := by
  have := congrArg (·[0]?) h
  simpa using this
theorem drop_more {s r : List UInt8} {k : Nat} (h : s.drop k = r) : s.drop (k + 1) = r.drop 1 := by
  rw [← h, List.drop_drop]
/-- one number read: which ranges there are, and where it goes on -/
theorem good_step {s : List UInt8} {i n k : Nat} {l L : List (Nat × Nat)} (h : Good s i l L) (hi : i < s.length) (hL : Chain 0 L) (hk : numGo 0 (s.drop i) = (n, s.drop k)) :
    i < k ∧ ((0 < i ∧ s[i - 1]? = some 45 ∧ l ≠ []) → Good s (k + 1) (setLast l n) L) ∧ (¬ (0 < i ∧ s[i - 1]? = some 45 ∧ l ≠ []) → Good s (k + 1) (l ++ [(n, n)]) L) := by
  have hv : ∀ p ∈ L, p.1 ≤ p.2 ∧ p.2 < top := (chain_runs hL).valid
  have less : ∀ m r, s.drop i = dec m ++ r → s.drop k = r → i < k := fun m r h1 h2 => by
    have e := congrArg List.length h1
    have e2 := congrArg List.length h2
    have := List.length_pos_iff.2 (dec_ne m)
    simp at e e2
    omega
  have hne : s.drop i ≠ [] := fun e => by
    have := congrArg List.length e
    simp at this; omega
  rcases h with ⟨L2, h1, h2, h3⟩ | ⟨L1, f, t, L2, h1, rfl, h3, h4, h2⟩
  · cases L2 with
    | nil => exact absurd h2 hne
    | cons p L3 =>
      obtain ⟨f, t⟩ := p
      have hp := hv (f, t) (by rw [h1]; simp)
      simp only at hp
      unfold top at hp
      rw [print_tail] at h2
      have hnot : ¬ (0 < i ∧ s[i - 1]? = some 45 ∧ l ≠ []) := fun ⟨a, b, _⟩ => by
        rcases h3 with h3 | h3 | h3
        · omega
        · rw [h3] at b; cases b
        · cases h3
      by_cases hft : f < t
      · have e : piece (f, t) ++ tailOf L3 = dec f ++ (45 :: (dec t ++ tailOf L3)) := by simp [piece, hft]
        have hn := numGo_num (m := f) (r := 45 :: (dec t ++ tailOf L3)) (by omega) (fun c r hc => by injection hc with hc _; subst hc; rfl)
        rw [h2, e, hn] at hk
        injection hk with hk1 hk2
        subst hk1
        refine ⟨less f _ (h2.trans e) hk2.symm, fun hx => absurd hx hnot, fun _ => .inr ⟨l, f, t, L3, h1, rfl, Nat.succ_pos _, drop_next hk2.symm, ?_⟩⟩
        rw [drop_more hk2.symm]; rfl
      · have eft : f = t := by omega
        subst eft
        have e : piece (f, f) ++ tailOf L3 = dec f ++ tailOf L3 := by simp [piece]
        have hn := numGo_num (m := f) (r := tailOf L3) (by omega) (tail_ends L3)
        rw [h2, e, hn] at hk
        injection hk with hk1 hk2
        subst hk1
        refine ⟨less f _ (h2.trans e) hk2.symm, fun hx => absurd hx hnot, fun _ => .inl ⟨L3, by rw [h1]; simp, ?_, .inr ?_⟩⟩
        · rw [drop_more hk2.symm, tail_drop]
        · by_cases h : L3 = []
          · exact .inr h
          · exact .inl (drop_next (r := print L3) (by show s.drop k = _; rw [← hk2]; unfold tailOf; rw [if_neg h]))
  · have hp := hv (f, t) (by rw [h1]; simp)
    simp only at hp
    unfold top at hp
    have hn := numGo_num (m := t) (r := tailOf L2) (by omega) (tail_ends L2)
    rw [h2, hn] at hk
    injection hk with hk1 hk2
    subst hk1
    refine ⟨less t _ h2 hk2.symm, fun _ => ?_, fun hx => absurd ⟨h3, h4, by simp⟩ hx⟩
    rw [setLast_snoc]
    refine .inl ⟨L2, by rw [h1]; simp, ?_, .inr ?_⟩
    · rw [drop_more hk2.symm, tail_drop]
    · by_cases h : L2 = []
      · exact .inr h
      · exact .inl (drop_next (r := print L2) (by show s.drop k = _; rw [← hk2]; unfold tailOf; rw [if_neg h]))

end Slot
end Go.Proofs.YtgpdbcigogkkbaaDoor
