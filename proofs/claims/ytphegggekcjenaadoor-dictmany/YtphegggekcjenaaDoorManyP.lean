/- Many names, put and taken out again: plain mathematics. -/
import Derived.Test.YtphegggekcjenaaDoorModel
namespace Go.Proofs.YtphegggekcjenaaDoor

/-- the name of a number -/
def nam (i : Nat) : Nm := [UInt8.ofNat i, UInt8.ofNat (i / 256), 120]
theorem nam_inj {i j : Nat} (hi : i < 65536) (hj : j < 65536) (h : nam i = nam j) : i = j := by
  unfold nam at h
  simp only [List.cons.injEq] at h
  obtain ⟨h1, h2, _⟩ := h
  have e1 : i % 256 = j % 256 := by simpa using congrArg UInt8.toNat h1
  have e2 : i / 256 % 256 = j / 256 % 256 := by simpa using congrArg UInt8.toNat h2
  omega
def manyD : Nat → DM Int
  | 0 => newD
  | i + 1 => putD (manyD i) (nam i) i
def goneD (m : Nat) : Nat → DM Int
  | 0 => manyD m
  | i + 1 => delD (goneD m i) (nam i)
theorem many_srt : ∀ i, Srt (manyD i).L
  | 0 => Srt.nil
  | i + 1 => by show Srt (putD (manyD i) (nam i) i).L; rw [putD_L]; exact (many_srt i).put _ _
theorem many_mem : ∀ i, i ≤ 65536 → ∀ x, x ∈ (manyD i).L ↔ ∃ j, j < i ∧ x = (nam j, (j : Int))
  | 0, _, x => by simp [manyD, newD]
  | i + 1, hi, x => by
    show x ∈ (putD (manyD i) (nam i) i).L ↔ _
    rw [putD_L, put1_mem, many_mem i (by omega)]
    constructor
    · rintro (h | ⟨⟨j, hj, rfl⟩, _⟩)
      · exact ⟨i, by omega, h⟩
      · exact ⟨j, by omega, rfl⟩
    · rintro ⟨j, hj, rfl⟩
      by_cases e : j = i
      · subst e; exact .inl rfl
      · exact .inr ⟨⟨j, by omega, rfl⟩, fun h => e (nam_inj (by omega) (by omega) h)⟩
theorem many_new {i : Nat} (hi : i < 65536) : hasL (nam i) (manyD i).L = false := by
  cases h : hasL (nam i) (manyD i).L with
  | false => rfl
  | true =>
    obtain ⟨v, hv⟩ := hasL_mem.1 h
    obtain ⟨j, hj, e⟩ := (many_mem i (by omega) _).1 hv
    have := nam_inj hi (by omega) (congrArg Prod.fst e)
    omega
theorem many_get {i j : Nat} (hi : i ≤ 65536) (hj : j < i) : getL (nam j) (manyD i).L = some (j : Int) := (getL_mem (many_srt i)).2 ((many_mem i hi _).2 ⟨j, hj, rfl⟩)
theorem many_small : ∀ i, Small i (manyD i)
  | 0 => Small.new
  | i + 1 => (many_small i).put _ _
theorem gone_srt (m : Nat) : ∀ i, Srt (goneD m i).L
  | 0 => many_srt m
  | i + 1 => by show Srt (delD (goneD m i) (nam i)).L; rw [delD_L]; exact (gone_srt m i).del _
theorem gone_mem (m : Nat) (hm : m ≤ 65536) : ∀ i, i ≤ m → ∀ x, x ∈ (goneD m i).L ↔ ∃ j, i ≤ j ∧ j < m ∧ x = (nam j, (j : Int))
  | 0, _, x => by
    show x ∈ (manyD m).L ↔ _
    rw [many_mem m hm]
    constructor
    · rintro ⟨j, h, e⟩; exact ⟨j, by omega, h, e⟩
    · rintro ⟨j, _, h, e⟩; exact ⟨j, h, e⟩
  | i + 1, hi, x => by
    show x ∈ (delD (goneD m i) (nam i)).L ↔ _
    rw [delD_L, delL_mem, gone_mem m hm i (by omega)]
    constructor
    · rintro ⟨⟨j, h1, h2, rfl⟩, h3⟩
      refine ⟨j, ?_, h2, rfl⟩
      by_cases e : j = i
      · subst e; exact absurd rfl h3
      · omega
    · rintro ⟨j, h1, h2, rfl⟩
      exact ⟨⟨j, by omega, h2, rfl⟩, fun h => by have := nam_inj (by omega) (by omega) h; omega⟩
theorem gone_has {m i : Nat} (hm : m ≤ 65536) (hi : i < m) : hasL (nam i) (goneD m i).L = true := hasL_mem.2 ⟨_, (gone_mem m hm i (by omega) _).2 ⟨i, Nat.le_refl _, hi, rfl⟩⟩
theorem gone_all {m : Nat} (hm : m ≤ 65536) : (goneD m m).L = [] := List.eq_nil_iff_forall_not_mem.2 fun x hx => by
  obtain ⟨j, h1, h2, _⟩ := (gone_mem m hm m (Nat.le_refl _) x).1 hx
  omega
theorem gone_small (m : Nat) : ∀ i, Small m (goneD m i)
  | 0 => many_small m
  | i + 1 => (gone_small m i).del _
/-- how tables stand -/
def Rms (d : DM Int) : Prop := (∃ k, d.rooms = 4 * 2 ^ k) ∧ d.rooms ≤ 4096 ∧ d.rooms + d.left ≤ 6144
theorem pow_le {k : Nat} (h : 4 * 2 ^ k < 3000) : 4 * 2 ^ k ≤ 2048 := by
  have h1 : 2 ^ k < 2 ^ 10 := by omega
  have h2 : k < 10 := (Nat.pow_lt_pow_iff_right (by decide)).1 h1
  have h3 : 2 ^ k ≤ 2 ^ 9 := Nat.pow_le_pow_right (by decide) (by omega)
  omega
theorem Rms.put {d : DM Int} (h : Rms d) (n : Nm) (v : Int) (hl : d.L.length < 3000) : Rms (putD d n v) := by
  obtain ⟨⟨k, hk⟩, h2, h3⟩ := h
  have h1 := put1_len n v false d.L
  unfold putD grow
  split
  · rename_i e
    simp only at e
    have : 4 * 2 ^ k ≤ 2048 := pow_le (by omega)
    exact ⟨⟨k + 1, by show 2 * d.rooms = _; rw [hk, Nat.pow_succ]; omega⟩, by show 2 * d.rooms ≤ _; omega, by show 2 * d.rooms + d.rooms ≤ _; omega⟩
  · exact ⟨⟨k, hk⟩, h2, by show d.rooms + (d.left - 1) ≤ _; omega⟩
theorem half_pow {k r : Nat} (h : r = 4 * 2 ^ k) (h4 : 4 < r) : ∃ k', k = k' + 1 ∧ r / 2 = 4 * 2 ^ k' := by
  cases k with
  | zero => simp at h; omega
  | succ k => exact ⟨k, rfl, by rw [h, Nat.pow_succ]; omega⟩
theorem Rms.del {d : DM Int} (h : Rms d) (n : Nm) : Rms (delD d n) := by
  obtain ⟨⟨k, hk⟩, h2, h3⟩ := h
  unfold delD shrink
  split
  · rename_i e
    simp only at e
    obtain ⟨k', _, hk'⟩ := half_pow hk e.2.1
    exact ⟨⟨k', hk'⟩, by show d.rooms / 2 ≤ _; omega, by show d.rooms / 2 + d.rooms ≤ _; omega⟩
  · exact ⟨⟨k, hk⟩, h2, by show d.rooms + (d.left - 1) ≤ _; omega⟩
theorem many_rms : ∀ i, i ≤ 3000 → Rms (manyD i)
  | 0, _ => ⟨⟨0, rfl⟩, by decide, by decide⟩
  | i + 1, h => (many_rms i (by omega)).put _ _ (by have := (many_small i).len; omega)
theorem gone_rms (m : Nat) (hm : m ≤ 3000) : ∀ i, Rms (goneD m i)
  | 0 => many_rms m hm
  | i + 1 => (gone_rms m hm i).del _
/-- so many rounds are left -/
def Ends (n : Nat) (d : DM Int) : Prop := d.L = [] ∧ ∃ k, d.rooms = 4 * 2 ^ k ∧ (d.left + 1) / 2 + d.rooms + k ≤ n + 4
theorem Ends.end {d : DM Int} (h : Ends 0 d) : d.rooms = 4 ∧ d.left = 0 := by
  obtain ⟨_, k, h1, h2⟩ := h
  have : 1 ≤ 2 ^ k := Nat.one_le_two_pow
  omega
theorem Ends.round {n : Nat} {d : DM Int} (h : Ends (n + 1) d) : Ends n (delD (stepD d) []) := by
  obtain ⟨h0, k, h1, h2⟩ := h
  unfold delD shrink stepD
  simp only [h0, delL, List.filter_nil, List.length_nil]
  split
  · rename_i e
    obtain ⟨k', rfl, hk'⟩ := half_pow h1 e.2.1
    refine ⟨rfl, k', hk', ?_⟩
    show (d.rooms + 1) / 2 + d.rooms / 2 + k' ≤ n + 4
    omega
  · rename_i e
    refine ⟨rfl, k, h1, ?_⟩
    show (d.left - 1 - 1 + 1) / 2 + d.rooms + k ≤ n + 4
    have hp : 1 ≤ 2 ^ k := Nat.one_le_two_pow
    by_cases hl : d.left = 0
    · have hr : ¬ 4 < d.rooms := fun h => e ⟨by omega, h, by omega⟩
      have hk : k = 0 := by
        cases k with
        | zero => rfl
        | succ k => have : 1 ≤ 2 ^ k := Nat.one_le_two_pow; rw [Nat.pow_succ] at h1; omega
      omega
    · by_cases hl2 : d.left ≤ 2
      · omega
      · omega
theorem gone_fin {m : Nat} (hm : m ≤ 3000) : Ends 8000 (goneD m m) := by
  obtain ⟨⟨k, hk⟩, h2, h3⟩ := gone_rms m hm m
  refine ⟨gone_all (by omega), k, hk, ?_⟩
  have hk2 : k < 11 := by
    have : 2 ^ k < 2 ^ 11 := by omega
    exact (Nat.pow_lt_pow_iff_right (by decide)).1 this
  omega
def finD (m : Nat) : Nat → DM Int
  | 0 => goneD m m
  | i + 1 => delD (stepD (finD m i)) []
theorem fin_fin {m : Nat} (hm : m ≤ 3000) : ∀ i j, i + j = 8000 → Ends j (finD m i)
  | 0, j, h => by obtain rfl : j = 8000 := by omega
                  exact gone_fin hm
  | i + 1, j, h => (fin_fin hm i (j + 1) (by omega)).round
theorem fin_small (m : Nat) : ∀ i, Small m (finD m i)
  | 0 => gone_small m m
  | i + 1 => (fin_small m i).step.del _

end Go.Proofs.YtphegggekcjenaaDoor
