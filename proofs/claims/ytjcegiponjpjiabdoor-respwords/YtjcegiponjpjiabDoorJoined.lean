/- Words with a blank behind each, and 13 10, read as a line: plain mathematics. -/
import Derived.Test.YtjcegiponjpjiabDoorMono
namespace Go.Proofs.YtjcegiponjpjiabDoor

/-- a word: some bytes, all above 32, none of them a star -/
def word (x : List UInt8) : Prop := x ≠ [] ∧ ∀ c ∈ x, 32 < c.toNat ∧ c ≠ 42
/-- words, a blank behind each -/
def joined (ws : List (List UInt8)) : List UInt8 := (ws.map (· ++ [32])).flatten
theorem joined_snoc (ws : List (List UInt8)) (x : List UInt8) : joined (ws ++ [x]) = joined ws ++ (x ++ [32]) := by simp [joined]
theorem word_blank {x : List UInt8} (h : word x) : ∀ c ∈ x, blank c = false := fun c hc => by
  have := (h.2 c hc).1
  unfold blank
  rw [Bool.or_eq_false_iff, beq_eq_false_iff_ne, beq_eq_false_iff_ne]
  exact ⟨fun e => by subst e; simp at this, fun e => by subst e; simp at this⟩
theorem fields_word : ∀ (x cur r : List UInt8), (∀ c ∈ x, blank c = false) → fieldsGo cur (x ++ r) = fieldsGo (cur ++ x) r
  | [], cur, r, _ => by simp
  | c :: x, cur, r, h => by
    rw [List.cons_append, fields_more (h c (by simp)), fields_word x (cur ++ [c]) r (fun d hd => h d (by simp [hd]))]
    simp
theorem fields_joined : ∀ ws : List (List UInt8), (∀ x ∈ ws, word x) → fields (joined ws) = ws
  | [], _ => rfl
  | x :: ws, h => by
    have hx := h x (by simp)
    have e : joined (x :: ws) = x ++ (32 :: joined ws) := by simp [joined]
    unfold fields
    rw [e, fields_word x [] _ (word_blank hx), List.nil_append, fields_blank (by decide), if_neg hx.1]
    have := fields_joined ws (fun y hy => h y (by simp [hy]))
    unfold fields at this
    rw [this]
    rfl
theorem joined_no10 (ws : List (List UInt8)) (h : ∀ x ∈ ws, word x) : ∀ c ∈ joined ws, c ≠ 10 ∧ c ≠ 42 := by
  intro c hc
  unfold joined at hc
  rw [List.mem_flatten] at hc
  obtain ⟨l, hl, hcl⟩ := hc
  rw [List.mem_map] at hl
  obtain ⟨x, hx, rfl⟩ := hl
  rcases List.mem_append.1 hcl with hc | hc
  · have := (h x hx).2 c hc
    exact ⟨fun e => by subst e; simp at this, this.2⟩
  · rw [List.mem_singleton] at hc
    subst hc
    exact ⟨by decide, by decide⟩
theorem line_joined (ws : List (List UInt8)) (h : ∀ x ∈ ws, word x) (hl : (joined ws).length ≤ 500) : lineAt (joined ws ++ [13, 10]) = some ((joined ws).length + 1) := by
  have e : joined ws ++ [13, 10] = (joined ws ++ [13]) ++ [10] := by simp
  have hl1 : (joined ws ++ [13]).length = (joined ws).length + 1 := by simp
  refine lineAt_some ?_ (by omega) fun j hj => ?_
  · rw [e, List.getElem?_append_right (by omega), hl1]
    simp
  · rw [e, List.getElem?_append_left (by omega)]
    intro hx
    have hm := List.mem_of_getElem? hx
    rcases List.mem_append.1 hm with hm | hm
    · exact (joined_no10 ws h 10 hm).1 rfl
    · exact absurd (List.mem_singleton.1 hm) (by decide)
theorem one_joined (ws : List (List UInt8)) (h : ∀ x ∈ ws, word x) (hl : (joined ws).length ≤ 500) (hn : ws.length ≤ 32) : one (joined ws ++ [13, 10]) = .got ws [] := by
  have hline := line_joined ws h hl
  have hlen : (joined ws ++ [13, 10]).length = (joined ws).length + 2 := by simp
  have ht : (joined ws ++ [13, 10]).take ((joined ws).length + 1 + 1) = joined ws ++ [13, 10] := List.take_of_length_le (by omega)
  have hd : (joined ws ++ [13, 10]).drop ((joined ws).length + 1 + 1) = [] := List.drop_eq_nil_of_le (by omega)
  have hhead : ¬ (joined ws ++ [13, 10]).head? = some 42 := by
    cases hj : joined ws with
    | nil => decide
    | cons c r =>
      intro e
      simp only [List.cons_append, List.head?_cons, Option.some.injEq] at e
      exact (joined_no10 ws h c (by rw [hj]; simp)).2 e
  have hbody : bodyLen (joined ws ++ [13, 10]) = (joined ws).length := by
    unfold bodyLen
    rw [if_pos ⟨by omega, by rw [hlen, Nat.add_sub_cancel, List.getElem?_append_right (Nat.le_refl _), Nat.sub_self]; rfl⟩, hlen]
    omega
  have hw : words (joined ws ++ [13, 10]) = ws := by
    unfold words
    rw [hbody, List.take_left]
    exact fields_joined ws h
  rw [one_words hline hhead, ht, hd, hw, if_neg (by omega)]
theorem runs_joined (ws : List (List UInt8)) (h : ∀ x ∈ ws, word x) (hl : (joined ws).length ≤ 500) (hn : ws.length ≤ 32) : Runs (joined ws ++ [13, 10]) (if ws = [] then [] else [ws]) [] 0 := by
  have h1 := one_joined ws h hl hn
  have h0 : one [] = .stop (-1) := by kernel_rfl
  by_cases e : ws = []
  · rw [if_pos e]
    subst e
    exact .skip h1 (.more h0)
  · rw [if_neg e]
    exact .some h1 e (.more h0)

end Go.Proofs.YtjcegiponjpjiabDoor
