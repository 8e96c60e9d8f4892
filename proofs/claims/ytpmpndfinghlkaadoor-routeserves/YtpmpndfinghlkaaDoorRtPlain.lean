/- What a client is told, and what a text is read as: plain mathematics. -/
import Derived.Test.YtpmpndfinghlkaaDoorRtNums
import Derived.Test.YtpmpndfinghlkaaDoorRtMem
namespace Go.Proofs.YtpmpndfinghlkaaDoor

def wMoved : List UInt8 := [77, 79, 86, 69, 68]
def wAsk : List UInt8 := [65, 83, 75]
def wAgain : List UInt8 := [84, 82, 89, 65, 71, 65, 73, 78]
def wCross : List UInt8 := [67, 82, 79, 83, 83, 83, 76, 79, 84]
def wDown : List UInt8 := [67, 76, 85, 83, 84, 69, 82, 68, 79, 87, 78]
/-- the text of a decision -/
def textV (d : DecV) : List UInt8 :=
  if d.kind = 2 then wMoved ++ 32 :: (Lib.itoa d.slot ++ 32 :: Lib.itoa d.node)
  else if d.kind = 3 then wAsk ++ 32 :: (Lib.itoa d.slot ++ 32 :: (Lib.itoa d.node ++ 32 :: Lib.itoa d.token))
  else if d.kind = 4 then wAgain else if d.kind = 5 then wCross else if d.kind = 6 then wDown else []
/-- a number from 0 to most that is written so -/
def numO (l : List UInt8) (most : Int) : Option Int :=
  match Lib.atoiAll l with
  | .ok v => if Lib.itoa v = l ∧ 0 ≤ v ∧ v ≤ most then some v else none
  | _ => none
theorem numO_ok {l : List UInt8} {v most : Int} (h : Lib.atoiAll l = .ok v) : numO l most = if Lib.itoa v = l ∧ 0 ≤ v ∧ v ≤ most then some v else none := by unfold numO; rw [h]
theorem numO_bad {l : List UInt8} {most : Int} (h : ∀ v, Lib.atoiAll l ≠ .ok v) : numO l most = none := by
  unfold numO
  cases e : Lib.atoiAll l with
  | ok v => exact absurd e (h v)
  | _ => rfl
theorem numO_itoa (v most : Int) (h0 : 0 ≤ v) (h1 : v ≤ most) (h2 : most ≤ 9223372036854775807) : numO (Lib.itoa v) most = some v := by
  rw [numO_ok (atoi_itoa v (by omega) (by omega)), if_pos ⟨rfl, h0, h1⟩]
theorem numO_some {l : List UInt8} {v most : Int} (h : numO l most = some v) : Lib.itoa v = l ∧ 0 ≤ v ∧ v ≤ most := by
  unfold numO at h
  cases e : Lib.atoiAll l with
  | ok x =>
    rw [e] at h
    by_cases hx : Lib.itoa x = l ∧ 0 ≤ x ∧ x ≤ most
    · simp only [if_pos hx, Option.some.injEq] at h; subst h; exact hx
    · simp only [if_neg hx] at h; cases h
  | _ => rw [e] at h; cases h
theorem numO_less {l : List UInt8} {v most less : Int} (h : numO l most = some v) (hl : less ≤ most) (hm : most ≤ 9223372036854775807) : numO l less = if v ≤ less then some v else none := by
  obtain ⟨rfl, h0, h1⟩ := numO_some h
  by_cases hv : v ≤ less
  · rw [if_pos hv, numO_itoa v less h0 hv (by omega)]
  · rw [if_neg hv]
    cases e : numO (Lib.itoa v) less with
    | none => rfl
    | some x =>
      obtain ⟨a, b, c⟩ := numO_some e
      have e1 := atoi_itoa v (by omega) (by omega)
      have e2 := atoi_itoa x (by omega) (by omega)
      rw [a, e1] at e2
      injection e2 with e2
      omega
theorem numO_less_none {l : List UInt8} {most less : Int} (h : numO l most = none) (hl : less ≤ most) : numO l less = none := by
  cases e : numO l less with
  | none => rfl
  | some x =>
    unfold numO at h e
    cases ea : Lib.atoiAll l with
    | ok v =>
      simp only [ea] at h e
      by_cases hv : Lib.itoa v = l ∧ 0 ≤ v ∧ v ≤ less
      · rw [if_pos ⟨hv.1, hv.2.1, by omega⟩] at h; cases h
      · rw [if_neg hv] at e; cases e
    | _ => simp only [ea] at e; cases e
/-- a text's pieces, between blanks -/
def pcs : List UInt8 → List (List UInt8)
  | [] => [[]]
  | c :: r => if c = 32 then [] :: pcs r else match pcs r with
    | [] => [[c]]
    | p :: t => (c :: p) :: t
theorem pcs_ne (l : List UInt8) : pcs l ≠ [] := by
  cases l with
  | nil => simp [pcs]
  | cons c r =>
    unfold pcs
    split
    · simp
    · split <;> simp
theorem pcs_none : ∀ p : List UInt8, 32 ∉ p → pcs p = [p]
  | [], _ => rfl
  | c :: r, h => by
    have hc : ¬ c = 32 := fun e => h (by simp [e])
    have := pcs_none r (fun m => h (List.mem_cons_of_mem _ m))
    simp only [pcs, if_neg hc, this]
theorem pcs_cut : ∀ (p r : List UInt8), 32 ∉ p → pcs (p ++ 32 :: r) = p :: pcs r
  | [], r, _ => by simp [pcs]
  | c :: p, r, h => by
    have hc : ¬ c = 32 := fun e => h (by simp [e])
    have := pcs_cut p r (fun m => h (List.mem_cons_of_mem _ m))
    simp only [List.cons_append, pcs, if_neg hc, this]
theorem pcs_cases (l : List UInt8) : (32 ∉ l ∧ pcs l = [l]) ∨ ∃ p r, l = p ++ 32 :: r ∧ 32 ∉ p ∧ pcs l = p :: pcs r := by
  rcases index_cases 32 l with ⟨-, h⟩ | ⟨p, r, rfl, h, -⟩
  · exact .inl ⟨h, pcs_none l h⟩
  · exact .inr ⟨p, r, rfl, h, pcs_cut p r h⟩
theorem pcs_one {l a : List UInt8} (h : pcs l = [a]) : l = a := by
  rcases pcs_cases l with ⟨-, e⟩ | ⟨p, r, rfl, -, e⟩
  · rw [e] at h; injection h
  · rw [e] at h; injection h with _ h; exact absurd h (pcs_ne r)
theorem pcs_more {l a b : List UInt8} {t : List (List UInt8)} (h : pcs l = a :: b :: t) : ∃ r, l = a ++ 32 :: r ∧ 32 ∉ a ∧ pcs r = b :: t := by
  rcases pcs_cases l with ⟨-, e⟩ | ⟨p, r, rfl, hp, e⟩
  · rw [e] at h; injection h with _ h; cases h
  · rw [e] at h; injection h with h1 h2; subst h1; exact ⟨r, rfl, hp, h2⟩
/-- a text cut at its first k blanks -/
def spl : Nat → List UInt8 → List (List UInt8)
  | 0, l => [l]
  | k + 1, l => if Lib.indexByte l 32 < 0 then [l] else l.take (Lib.indexByte l 32).toNat :: spl k (l.drop ((Lib.indexByte l 32).toNat + 1))
theorem spl_none {k : Nat} {l : List UInt8} (h : 32 ∉ l) : spl k l = [l] := by
  cases k with
  | zero => rfl
  | succ k => unfold spl; rw [index_none 32 l h]; simp
theorem drop_cut (p r : List UInt8) : (p ++ 32 :: r).drop (p.length + 1) = r := by
  rw [List.drop_append, List.drop_of_length_le (by omega)]
  simp
theorem spl_cut (k : Nat) (p r : List UInt8) (h : 32 ∉ p) : spl (k + 1) (p ++ 32 :: r) = p :: spl k r := by
  show (if Lib.indexByte (p ++ 32 :: r) 32 < 0 then [p ++ 32 :: r] else (p ++ 32 :: r).take (Lib.indexByte (p ++ 32 :: r) 32).toNat :: spl k ((p ++ 32 :: r).drop ((Lib.indexByte (p ++ 32 :: r) 32).toNat + 1))) = p :: spl k r
  rw [index_at 32 p r h, if_neg (by omega), show ((p.length : Int)).toNat = p.length by omega, List.take_left, drop_cut p r]
theorem spl_pcs : ∀ (k : Nat) (l : List UInt8), ((pcs l).length ≤ k + 1 → spl k l = pcs l) ∧ (k + 1 < (pcs l).length → (spl k l).length = k + 1)
  | 0, l => by
    rcases pcs_cases l with ⟨h, e⟩ | ⟨p, r, rfl, -, e⟩
    · rw [spl_none h, e]; simp
    · rw [e]
      have := List.length_pos_iff.2 (pcs_ne r)
      constructor
      · intro h; simp only [List.length_cons] at h; omega
      · intro _; rfl
  | k + 1, l => by
    rcases pcs_cases l with ⟨h, e⟩ | ⟨p, r, rfl, hp, e⟩
    · rw [spl_none h, e]; simp
    · rw [spl_cut k p r hp, e]
      have ih := spl_pcs k r
      constructor
      · intro h; rw [ih.1 (by simpa using h)]
      · intro h; simp [ih.2 (by simpa using h)]
/-- a decision that leads on, of its numbers -/
def ledV (k : Int) (a b c : List UInt8) : Option DecV :=
  match numO a 16383, numO b 63, numO c 9223372036854775807 with
  | some x, some y, some z => some ⟨k, x, y, z⟩
  | _, _, _ => none
/-- the decision that a text is -/
def readV (l : List UInt8) : Option DecV :=
  if l = wAgain then some ⟨4, 0, 0, 0⟩ else if l = wCross then some ⟨5, 0, 0, 0⟩ else if l = wDown then some ⟨6, 0, 0, 0⟩ else
  match pcs l with
  | [w, a, b] => if w = wMoved then ledV 2 a b [48] else none
  | [w, a, b, c] => if w = wAsk then ledV 3 a b c else none
  | _ => none
theorem ledV_some {k : Int} {a b c : List UInt8} {d : DecV} (h : ledV k a b c = some d) : d.kind = k ∧ Lib.itoa d.slot = a ∧ Lib.itoa d.node = b ∧ Lib.itoa d.token = c := by
  unfold ledV at h
  cases e1 : numO a 16383 with
  | none => simp only [e1] at h; cases h
  | some x =>
    cases e2 : numO b 63 with
    | none => simp only [e1, e2] at h; cases h
    | some y =>
      cases e3 : numO c 9223372036854775807 with
      | none => simp only [e1, e2, e3] at h; cases h
      | some z =>
        simp only [e1, e2, e3, Option.some.injEq] at h
        subst h
        exact ⟨rfl, (numO_some e1).1, (numO_some e2).1, (numO_some e3).1⟩
/-- what is read is written so -/
theorem readV_text {l : List UInt8} {d : DecV} (h : readV l = some d) : textV d = l := by
  unfold readV at h
  by_cases h4 : l = wAgain
  · rw [if_pos h4] at h; injection h with h; subst h; exact h4.symm
  rw [if_neg h4] at h
  by_cases h5 : l = wCross
  · rw [if_pos h5] at h; injection h with h; subst h; exact h5.symm
  rw [if_neg h5] at h
  by_cases h6 : l = wDown
  · rw [if_pos h6] at h; injection h with h; subst h; exact h6.symm
  rw [if_neg h6] at h
  split at h
  · rename_i w a b hp
    by_cases hw : w = wMoved
    · rw [if_pos hw] at h
      obtain ⟨k, rfl, rfl, -⟩ := ledV_some h
      obtain ⟨r, rfl, -, hr⟩ := pcs_more hp
      obtain ⟨r2, rfl, -, hr2⟩ := pcs_more hr
      rw [pcs_one hr2, hw]
      unfold textV
      rw [if_pos k]
    · rw [if_neg hw] at h; cases h
  · rename_i w a b c hp
    by_cases hw : w = wAsk
    · rw [if_pos hw] at h
      obtain ⟨k, rfl, rfl, rfl⟩ := ledV_some h
      obtain ⟨r, rfl, -, hr⟩ := pcs_more hp
      obtain ⟨r2, rfl, -, hr2⟩ := pcs_more hr
      obtain ⟨r3, rfl, -, hr3⟩ := pcs_more hr2
      rw [pcs_one hr3, hw]
      unfold textV
      rw [if_neg (by rw [k]; decide), if_pos k]
    · rw [if_neg hw] at h; cases h
  · cases h
/-- the numbers behind a word -/
def numsV : List (List UInt8) → Option (List Int)
  | [] => some []
  | p :: t => match numO p 9223372036854775807 with
    | none => none
    | some v => match numsV t with
      | none => none
      | some L => some (v :: L)

end Go.Proofs.YtpmpndfinghlkaaDoor
