/- What a text is read as, by its word and its numbers: plain mathematics. -/
import Derived.Test.YtpmpndfinghlkaaDoorRtRead
import Derived.Test.YtpmpndfinghlkaaDoorRtRNum
namespace Go.Proofs.YtpmpndfinghlkaaDoor

theorem numsV_len : ∀ {P : List (List UInt8)} {L : List Int}, numsV P = some L → L.length = P.length
  | [], L, h => by simp [numsV] at h; subst h; rfl
  | p :: t, L, h => by
    rw [numsV_cons] at h
    cases e : numO p 9223372036854775807 with
    | none => rw [e] at h; cases h
    | some v =>
      rw [e] at h
      cases e2 : numsV t with
      | none => rw [e2] at h; cases h
      | some M =>
        rw [e2] at h
        simp at h
        subst h
        simp [numsV_len e2]
theorem numsV_some {p : List UInt8} {t : List (List UInt8)} {x : Int} {M : List Int} (h : numsV (p :: t) = some (x :: M)) : numO p 9223372036854775807 = some x ∧ numsV t = some M := by
  rw [numsV_cons] at h
  cases e : numO p 9223372036854775807 with
  | none => rw [e] at h; cases h
  | some v =>
    rw [e] at h
    cases e2 : numsV t with
    | none => rw [e2] at h; cases h
    | some M' =>
      rw [e2] at h
      simp at h
      rw [h.1, h.2]
      exact ⟨rfl, rfl⟩
theorem numsV_none {p : List UInt8} {t : List (List UInt8)} (h : numsV (p :: t) = none) : numO p 9223372036854775807 = none ∨ numsV t = none := by
  rw [numsV_cons] at h
  cases e : numO p 9223372036854775807 with
  | none => exact .inl rfl
  | some v =>
    rw [e] at h
    cases e2 : numsV t with
    | none => exact .inr rfl
    | some M => rw [e2] at h; cases h
theorem itoa_0 : Lib.itoa 0 = [48] := by
  have := Lib.itoa_nonneg 0
  rw [show ((0 : Nat) : Int) = 0 from rfl] at this
  rw [this]
  show dec 0 = [48]
  rw [dec_small (by decide)]
  decide
theorem numO_0 : numO [48] 9223372036854775807 = some 0 := by
  rw [← itoa_0]
  exact numO_itoa 0 _ (by decide) (by decide) (by decide)
theorem ledV_is {k x y z : Int} {a b c : List UInt8} (ha : numO a 9223372036854775807 = some x) (hb : numO b 9223372036854775807 = some y) (hc : numO c 9223372036854775807 = some z) :
    ledV k a b c = if x ≤ 16383 ∧ y ≤ 63 then some ⟨k, x, y, z⟩ else none := by
  have e1 := numO_less (less := 16383) ha (by decide) (by decide)
  have e2 := numO_less (less := 63) hb (by decide) (by decide)
  by_cases h1 : x ≤ 16383
  · rw [if_pos h1] at e1
    by_cases h2 : y ≤ 63
    · rw [if_pos h2] at e2
      rw [if_pos ⟨h1, h2⟩]
      exact ledV_yes e1 e2 hc
    · rw [if_neg h2] at e2
      rw [if_neg (fun h => h2 h.2)]
      exact ledV_no2 e2
  · rw [if_neg h1] at e1
    rw [if_neg (fun h => h1 h.1)]
    exact ledV_no1 e1
structure NoWord (l : List UInt8) : Prop where
  again : l ≠ wAgain
  cross : l ≠ wCross
  down : l ≠ wDown
theorem moved_pcs {l r : List UInt8} (h : l = wMoved ++ 32 :: r) : pcs l = wMoved :: pcs r := by rw [h]; exact pcs_cut wMoved r (by decide)
theorem ask_pcs {l r : List UInt8} (h : l = wAsk ++ 32 :: r) : pcs l = wAsk :: pcs r := by rw [h]; exact pcs_cut wAsk r (by decide)
theorem moved_not_ask {l r r' : List UInt8} (h : l = wMoved ++ 32 :: r) (h' : l = wAsk ++ 32 :: r') : False := by
  rw [h] at h'; simp [wMoved, wAsk] at h'
theorem readV_moved {l r : List UInt8} (hw : NoWord l) (h : l = wMoved ++ 32 :: r) : readV l = match pcs r with | [a, b] => ledV 2 a b [48] | _ => none := by
  have hp := moved_pcs h
  unfold readV
  rw [if_neg hw.again, if_neg hw.cross, if_neg hw.down, hp]
  match hr : pcs r with
  | [] => rfl
  | [a] => rfl
  | [a, b] => show (if wMoved = wMoved then _ else _) = _; rw [if_pos rfl]
  | [a, b, c] => show (if wMoved = wAsk then _ else _) = _; rw [if_neg (by decide)]
  | a :: b :: c :: d :: t => rfl
theorem readV_ask {l r : List UInt8} (hw : NoWord l) (h : l = wAsk ++ 32 :: r) : readV l = match pcs r with | [a, b, c] => ledV 3 a b c | _ => none := by
  have hp := ask_pcs h
  unfold readV
  rw [if_neg hw.again, if_neg hw.cross, if_neg hw.down, hp]
  match hr : pcs r with
  | [] => rfl
  | [a] => rfl
  | [a, b] => show (if wAsk = wMoved then _ else _) = _; rw [if_neg (by decide)]
  | [a, b, c] => show (if wAsk = wAsk then _ else _) = _; rw [if_pos rfl]
  | a :: b :: c :: d :: t => rfl
theorem list2 {α : Type} {L : List α} (h : L.length = 2) : ∃ x y, L = [x, y] := by
  match L, h with
  | [x, y], _ => exact ⟨x, y, rfl⟩
theorem moved_yes {l r : List UInt8} {x y : Int} (hw : NoWord l) (h : l = wMoved ++ 32 :: r) (hn : numsV (pcs r) = some [x, y]) : readV l = if x ≤ 16383 ∧ y ≤ 63 then some ⟨2, x, y, 0⟩ else none := by
  obtain ⟨a, b, hp⟩ := list2 (by rw [← numsV_len hn]; rfl : (pcs r).length = 2)
  rw [hp] at hn
  obtain ⟨h1, h2⟩ := numsV_some hn
  rw [readV_moved hw h, hp]
  exact ledV_is h1 (numsV_some h2).1 numO_0
theorem moved_len {l r : List UInt8} {L : List Int} (hw : NoWord l) (h : l = wMoved ++ 32 :: r) (hn : numsV (pcs r) = some L) (hL : L.length ≠ 2) : readV l = none := by
  have := numsV_len hn
  rw [readV_moved hw h]
  split
  · rename_i e; rw [e] at this; exact absurd this hL
  · rfl
theorem moved_no {l r : List UInt8} (hw : NoWord l) (h : l = wMoved ++ 32 :: r) (hn : numsV (pcs r) = none) : readV l = none := by
  rw [readV_moved hw h]
  split
  · rename_i a b e
    rw [e] at hn
    rcases numsV_none hn with h1 | h1
    · exact ledV_no1 (numO_less_none h1 (by decide))
    · rcases numsV_none h1 with h2 | h2
      · exact ledV_no2 (numO_less_none h2 (by decide))
      · cases h2
  · rfl
theorem ask_yes {l r : List UInt8} {x y z : Int} (hw : NoWord l) (h : l = wAsk ++ 32 :: r) (hn : numsV (pcs r) = some [x, y, z]) : readV l = if x ≤ 16383 ∧ y ≤ 63 then some ⟨3, x, y, z⟩ else none := by
  obtain ⟨a, b, c, hp⟩ := list3 (by rw [← numsV_len hn]; rfl : (pcs r).length = 3)
  rw [hp] at hn
  obtain ⟨h1, h2⟩ := numsV_some hn
  obtain ⟨h2, h3⟩ := numsV_some h2
  rw [readV_ask hw h, hp]
  exact ledV_is h1 h2 (numsV_some h3).1
theorem ask_len {l r : List UInt8} {L : List Int} (hw : NoWord l) (h : l = wAsk ++ 32 :: r) (hn : numsV (pcs r) = some L) (hL : L.length ≠ 3) : readV l = none := by
  have := numsV_len hn
  rw [readV_ask hw h]
  split
  · rename_i e; rw [e] at this; exact absurd this hL
  · rfl
theorem ask_no {l r : List UInt8} (hw : NoWord l) (h : l = wAsk ++ 32 :: r) (hn : numsV (pcs r) = none) : readV l = none := by
  rw [readV_ask hw h]
  split
  · rename_i a b c e
    rw [e] at hn
    rcases numsV_none hn with h1 | h1
    · exact ledV_no1 (numO_less_none h1 (by decide))
    · rcases numsV_none h1 with h2 | h2
      · exact ledV_no2 (numO_less_none h2 (by decide))
      · rcases numsV_none h2 with h3 | h3
        · exact ledV_no3 h3
        · cases h3
  · rfl
theorem neither {l : List UInt8} (hw : NoWord l) (hm : ∀ r, l ≠ wMoved ++ 32 :: r) (ha : ∀ r, l ≠ wAsk ++ 32 :: r) : readV l = none := by
  unfold readV
  rw [if_neg hw.again, if_neg hw.cross, if_neg hw.down]
  split
  · rename_i w a b hp
    rw [if_neg]
    rintro rfl
    obtain ⟨r, e, -, -⟩ := pcs_more hp
    exact hm r e
  · rename_i w a b c hp
    rw [if_neg]
    rintro rfl
    obtain ⟨r, e, -, -⟩ := pcs_more hp
    exact ha r e
  · rfl
theorem word_is {l : List UInt8} {k : Int} (h0 : 4 ≤ k) (h1 : k ≤ 6) (h : textV ⟨k, 0, 0, 0⟩ = l) : readV l = some ⟨k, 0, 0, 0⟩ := by
  rcases (show k = 4 ∨ k = 5 ∨ k = 6 by omega) with rfl | rfl | rfl
  · subst h; unfold readV; exact if_pos rfl
  · subst h; unfold readV; rw [if_neg (by decide)]; exact if_pos rfl
  · subst h; unfold readV; rw [if_neg (by decide), if_neg (by decide)]; exact if_pos rfl
theorem no_word {l : List UInt8} (h : ∀ k : Int, 4 ≤ k → k < 7 → textV ⟨k, 0, 0, 0⟩ ≠ l) : NoWord l :=
  ⟨fun e => h 4 (by decide) (by decide) e.symm, fun e => h 5 (by decide) (by decide) e.symm, fun e => h 6 (by decide) (by decide) e.symm⟩

end Go.Proofs.YtpmpndfinghlkaaDoor
