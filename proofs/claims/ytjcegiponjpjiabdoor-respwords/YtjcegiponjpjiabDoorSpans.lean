/- Words as spans of a line, and what runes are blanks: plain mathematics. -/
import Derived.Test.YtjcegiponjpjiabDoorFields
import Derived.Shelf.Spec.DecodeRune
import Derived.Lib.FieldsP
import Derived.Lib.TrimU
namespace Go.Proofs.YtjcegiponjpjiabDoor

/-- how far the spans of words are known at i, the one under way being begun at st -/
structure Spans (l : List UInt8) (i : Nat) (st : Option Nat) (acc : List (Nat × Nat)) : Prop where
  read : Read l (st.getD i) i (acc.map fun x => cutOut l x.1 x.2)
  lt : ∀ a, st = some a → a < i
  ok : ∀ x ∈ acc, x.1 < x.2 ∧ x.2 ≤ l.length
theorem spans_first (l : List UInt8) : Spans l 0 none [] := ⟨read_first l, (fun a h => by cases h), (fun x h => by cases h)⟩
theorem Spans.pass {l : List UInt8} {i : Nat} {acc : List (Nat × Nat)} (h : Spans l i none acc) (hi : i < l.length) (hb : blank l[i] = true) : Spans l (i + 1) none acc := by
  refine ⟨?_, (fun a h => by cases h), h.ok⟩
  have := read_blank (a := i) h.read hi hb
  rwa [cutOut_none, if_pos rfl, List.append_nil] at this
theorem cutOut_ne {l : List UInt8} {a i : Nat} (ha : a < i) (hi : i ≤ l.length) : cutOut l a i ≠ [] := fun e => by
  have := cutOut_len (a := a) hi
  rw [e] at this
  simp at this
  omega
theorem Spans.shut {l : List UInt8} {i a : Nat} {acc : List (Nat × Nat)} (h : Spans l i (some a) acc) (hi : i < l.length) (hb : blank l[i] = true) : Spans l (i + 1) none (acc ++ [(a, i)]) := by
  have ha := h.lt a rfl
  refine ⟨?_, (fun a h => by cases h), ?_⟩
  · have := read_blank (a := a) h.read hi hb
    rw [if_neg (cutOut_ne ha (by omega))] at this
    simpa using this
  · intro x hx
    rcases List.mem_append.1 hx with hx | hx
    · exact h.ok x hx
    · rw [List.mem_singleton] at hx; subst hx; exact ⟨by simp; omega, by simp; omega⟩
theorem Spans.more {l : List UInt8} {i : Nat} {st : Option Nat} {acc : List (Nat × Nat)} (h : Spans l i st acc) : ∀ K, i + K ≤ l.length → (∀ j (hj : j < l.length), i ≤ j → j < i + K → blank l[j] = false) → Read l (st.getD i) (i + K) (acc.map fun x => cutOut l x.1 x.2) := by
  intro K
  induction K with
  | zero => intro _ _; exact h.read
  | succ K ih =>
    intro hK hj
    have h1 := ih (by omega) (fun j a b c => hj j a b (by omega))
    refine read_more (i := i + K) h1 (by omega) ?_ (hj (i + K) (by omega) (by omega) (by omega))
    cases st with
    | none => simp
    | some a => have := h.lt a rfl; simp; omega
theorem Spans.on {l : List UInt8} {i : Nat} {st : Option Nat} {acc : List (Nat × Nat)} (h : Spans l i st acc) (K : Nat) (h1 : 1 ≤ K) (hK : i + K ≤ l.length) (hj : ∀ j (hj : j < l.length), i ≤ j → j < i + K → blank l[j] = false) : Spans l (i + K) (some (st.getD i)) acc := by
  refine ⟨h.more K hK hj, fun a ha => ?_, h.ok⟩
  injection ha with ha
  cases st with
  | none => simp at ha; omega
  | some b => have := h.lt b rfl; simp at ha; omega
/-- the spans at the end -/
def ends (n : Nat) : Option Nat → List (Nat × Nat) → List (Nat × Nat)
  | none, acc => acc
  | some a, acc => acc ++ [(a, n)]
theorem Spans.last {l : List UInt8} {st : Option Nat} {acc : List (Nat × Nat)} (h : Spans l l.length st acc) : fields l = (ends l.length st acc).map (fun x => cutOut l x.1 x.2) ∧ ∀ x ∈ ends l.length st acc, x.1 < x.2 ∧ x.2 ≤ l.length := by
  have hr := read_last h.read
  cases st with
  | none =>
    simp only [Option.getD_none] at hr
    rw [cutOut_none, if_pos rfl, List.append_nil] at hr
    exact ⟨hr, h.ok⟩
  | some a =>
    have ha := h.lt a rfl
    simp only [Option.getD_some] at hr
    rw [if_neg (cutOut_ne ha (Nat.le_refl _))] at hr
    refine ⟨by rw [hr]; simp [ends], fun x hx => ?_⟩
    rcases List.mem_append.1 hx with hx | hx
    · exact h.ok x hx
    · rw [List.mem_singleton] at hx; subst hx; exact ⟨by simp; omega, by simp⟩
theorem blank_wide {c : UInt8} (h : 128 ≤ c.toNat) : blank c = false := by
  unfold blank
  rw [Bool.or_eq_false_iff, beq_eq_false_iff_ne, beq_eq_false_iff_ne]
  exact ⟨fun e => by subst e; simp at h, fun e => by subst e; simp at h⟩
theorem get_at (r : List UInt8) (j : Nat) (h : j < r.length) : (⟨r.toArray⟩ : ByteArray).get! j = r[j] := by
  show (⟨r.toArray⟩ : ByteArray).data[j]! = _
  rw [getElem!_pos _ j (by simpa using h)]
  simp
theorem decodeN_wide (n b0 b1 b2 b3 : Nat) (h : ¬ b0 < 128) (h0 : b0 < 256) (hn : 1 ≤ n) : 128 ≤ (Lib.decodeN n b0 b1 b2 b3).1 ∧ 1 ≤ (Lib.decodeN n b0 b1 b2 b3).2 ∧ (Lib.decodeN n b0 b1 b2 b3).2 ≤ n ∧ (Lib.decodeN n b0 b1 b2 b3).2 ≤ 4 ∧ (1 < (Lib.decodeN n b0 b1 b2 b3).2 → 128 ≤ b1) ∧ (2 < (Lib.decodeN n b0 b1 b2 b3).2 → 128 ≤ b2) ∧ (3 < (Lib.decodeN n b0 b1 b2 b3).2 → 128 ≤ b3) := by
  unfold Lib.decodeN
  repeat' split
  all_goals (simp only; omega)
/-- what a rune is, as far as blanks go -/
theorem rune_wide {l : List UInt8} {i : Nat} (h : i < l.length) (hc : ¬ l[i].toNat < 128) {R K : Nat} (hD : Lib.decodeGo ⟨(l.drop i).toArray⟩ = (R, K)) : 128 ≤ R ∧ R ≤ 1114111 ∧ 1 ≤ K ∧ i + K ≤ l.length ∧ ∀ j (hj : j < l.length), i ≤ j → j < i + K → blank l[j] = false := by
  have hsz : (⟨(l.drop i).toArray⟩ : ByteArray).size = l.length - i := by simp [ByteArray.size]
  have hg : ∀ j, i + j < l.length → (⟨(l.drop i).toArray⟩ : ByteArray).get! j = l[i + j]! := fun j hj => by
    rw [get_at _ _ (by simp; omega), getElem!_pos l (i + j) hj]; simp
  have hle := Lib.rune_le ⟨(l.drop i).toArray⟩ 0
  have hd : Lib.decodeGo ⟨(l.drop i).toArray⟩ = Utf8.decode ⟨(l.drop i).toArray⟩ 0 := by
    unfold Lib.decodeGo; rw [if_neg (by rw [hsz]; omega)]
  rw [hd] at hD
  rw [hD] at hle
  rw [Lib.decode_at] at hD
  have h00 : (⟨(l.drop i).toArray⟩ : ByteArray).get! 0 = l[i] := by rw [hg 0 (by omega), Nat.add_zero, getElem!_pos l i h]
  have hw := decodeN_wide ((⟨(l.drop i).toArray⟩ : ByteArray).size - 0) ((⟨(l.drop i).toArray⟩ : ByteArray).get! 0).toNat ((⟨(l.drop i).toArray⟩ : ByteArray).get! (0 + 1)).toNat ((⟨(l.drop i).toArray⟩ : ByteArray).get! (0 + 2)).toNat ((⟨(l.drop i).toArray⟩ : ByteArray).get! (0 + 3)).toNat (by rw [h00]; exact hc) (UInt8.toNat_lt _) (by rw [hsz]; omega)
  rw [hD] at hw
  obtain ⟨w1, w2, w3, w4, w5, w6, w7⟩ := hw
  simp only at w1 w2 w3 w4 w5 w6 w7
  rw [hsz] at w3
  refine ⟨w1, hle, w2, by omega, fun j hj h1 h2 => blank_wide ?_⟩
  obtain ⟨d, rfl⟩ : ∃ d, j = i + d := ⟨j - i, by omega⟩
  have hgd := hg d hj
  rw [getElem!_pos l (i + d) hj] at hgd
  have : d = 0 ∨ d = 1 ∨ d = 2 ∨ d = 3 := by omega
  rcases this with rfl | rfl | rfl | rfl
  · simp only [Nat.add_zero] at hgd ⊢; omega
  · rw [← hgd]; exact w5 (by omega)
  · rw [← hgd]; exact w6 (by omega)
  · rw [← hgd]; exact w7 (by omega)
theorem rune_ascii {l : List UInt8} {i : Nat} (h : i < l.length) (hc : l[i].toNat < 128) : Lib.decodeGo ⟨(l.drop i).toArray⟩ = (l[i].toNat, 1) := by
  have hsz : (⟨(l.drop i).toArray⟩ : ByteArray).size = l.length - i := by simp [ByteArray.size]
  have h00 : (⟨(l.drop i).toArray⟩ : ByteArray).get! 0 = l[i] := by rw [get_at _ _ (by simp; omega)]; simp
  unfold Lib.decodeGo
  rw [if_neg (by rw [hsz]; omega), Lib.decode_at, h00]
  simp [Lib.decodeN, hc]

/-- what the rune at a place is, as far as blanks go -/
theorem rune_ways {l : List UInt8} {i : Nat} (h : i < l.length) : ∃ R K : Nat, Lib.decodeGo ⟨(l.drop i).toArray⟩ = (R, K) ∧ R ≤ 1114111 ∧ 1 ≤ K ∧ i + K ≤ l.length ∧ ((blank l[i] = true ∧ K = 1 ∧ (R = 32 ∨ R = 9)) ∨ (R ≠ 32 ∧ R ≠ 9 ∧ ∀ j (hj : j < l.length), i ≤ j → j < i + K → blank l[j] = false)) := by
  by_cases hc : l[i].toNat < 128
  · refine ⟨l[i].toNat, 1, rune_ascii h hc, by omega, Nat.le_refl _, by omega, ?_⟩
    cases hb : blank l[i]
    · refine .inr ⟨fun e => ?_, fun e => ?_, fun j hj h1 h2 => ?_⟩
      · rw [show l[i] = 32 from UInt8.toNat_inj.1 e] at hb; cases hb
      · rw [show l[i] = 9 from UInt8.toNat_inj.1 e] at hb; cases hb
      · obtain rfl : j = i := by omega
        exact hb
    · refine .inl ⟨rfl, rfl, ?_⟩
      unfold blank at hb
      rw [Bool.or_eq_true, beq_iff_eq, beq_iff_eq] at hb
      rcases hb with hb | hb
      · rw [hb]; exact .inl rfl
      · rw [hb]; exact .inr rfl
  · obtain ⟨R, K, hD⟩ : ∃ R K, Lib.decodeGo ⟨(l.drop i).toArray⟩ = (R, K) := ⟨_, _, rfl⟩
    obtain ⟨h1, h2, h3, h4, h5⟩ := rune_wide h hc hD
    exact ⟨R, K, hD, h2, h3, h4, .inr ⟨by omega, by omega, h5⟩⟩

end Go.Proofs.YtjcegiponjpjiabDoor
