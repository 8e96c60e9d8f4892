/- Two sets that are gone through side by side: plain mathematics. -/
import Derived.Test.YtpbokncojemihaaModel
namespace Go.Proofs.Ytpbokncojemihaa

/-- a text that is told, and which of both have it -/
abbrev Told := Nm × Bool × Bool
/-- what is told (n: room) -/
def side : Nat → List Nm → List Nm → List Told
  | 0, _, _ => []
  | _ + 1, [], [] => []
  | n + 1, x :: a, [] => (x, true, false) :: side n a []
  | n + 1, [], y :: b => (y, false, true) :: side n [] b
  | n + 1, x :: a, y :: b => if x < y then (x, true, false) :: side n a (y :: b) else if y < x then (y, false, true) :: side n (x :: a) b else (y, true, true) :: side n a b
structure Spec (a b : List Nm) (R : List Told) : Prop where
  told : ∀ t ∈ R, (t.1 ∈ a ∨ t.1 ∈ b) ∧ t.2.1 = decide (t.1 ∈ a) ∧ t.2.2 = decide (t.1 ∈ b)
  all : ∀ s, s ∈ a ∨ s ∈ b → s ∈ R.map (·.1)
  ris : Ris (R.map (·.1))
theorem Spec.cons {a b a' b' : List Nm} {s : Nm} {X Y : Bool} {R : List Told} (S : Spec a' b' R) (hX : a = if X = true then s :: a' else a') (hY : b = if Y = true then s :: b' else b') (hXY : X = true ∨ Y = true)
    (h1 : ∀ z ∈ a', s < z) (h2 : ∀ z ∈ b', s < z) : Spec a b ((s, X, Y) :: R) := by
  have n1 : s ∉ a' := fun h => nm_lt_irrefl s (h1 s h)
  have n2 : s ∉ b' := fun h => nm_lt_irrefl s (h2 s h)
  have ma : ∀ z, z ∈ a ↔ (X = true ∧ z = s) ∨ z ∈ a' := fun z => by rw [hX]; cases X <;> simp
  have mb : ∀ z, z ∈ b ↔ (Y = true ∧ z = s) ∨ z ∈ b' := fun z => by rw [hY]; cases Y <;> simp
  have up : ∀ t ∈ R, s < t.1 := fun t ht => by
    rcases (S.told t ht).1 with h | h
    · exact h1 _ h
    · exact h2 _ h
  refine ⟨fun t ht => ?_, fun z hz => ?_, ?_⟩
  · rcases List.mem_cons.1 ht with rfl | ht
    · refine ⟨?_, ?_, ?_⟩
      · rcases hXY with h | h
        · exact .inl ((ma s).2 (.inl ⟨h, rfl⟩))
        · exact .inr ((mb s).2 (.inl ⟨h, rfl⟩))
      · show X = decide (s ∈ a)
        cases X with
        | true => exact (decide_eq_true ((ma s).2 (.inl ⟨rfl, rfl⟩))).symm
        | false => exact (decide_eq_false (fun h => by
            rcases (ma s).1 h with h | h
            · exact absurd h.1 (by decide)
            · exact n1 h)).symm
      · show Y = decide (s ∈ b)
        cases Y with
        | true => exact (decide_eq_true ((mb s).2 (.inl ⟨rfl, rfl⟩))).symm
        | false => exact (decide_eq_false (fun h => by
            rcases (mb s).1 h with h | h
            · exact absurd h.1 (by decide)
            · exact n2 h)).symm
    · obtain ⟨t1, t2, t3⟩ := S.told t ht
      have hne : t.1 ≠ s := fun e => nm_lt_irrefl s (by have := up t ht; rwa [e] at this)
      refine ⟨?_, ?_, ?_⟩
      · rcases t1 with h | h
        · exact .inl ((ma _).2 (.inr h))
        · exact .inr ((mb _).2 (.inr h))
      · rw [t2, decide_eq_decide, ma]
        exact ⟨fun h => .inr h, fun h => h.elim (fun h => absurd h.2 hne) id⟩
      · rw [t3, decide_eq_decide, mb]
        exact ⟨fun h => .inr h, fun h => h.elim (fun h => absurd h.2 hne) id⟩
  · rw [List.map_cons, List.mem_cons]
    have : z = s ∨ z ∈ a' ∨ z ∈ b' := by
      rcases hz with h | h
      · rcases (ma z).1 h with h | h
        · exact .inl h.2
        · exact .inr (.inl h)
      · rcases (mb z).1 h with h | h
        · exact .inl h.2
        · exact .inr (.inr h)
    rcases this with h | h
    · exact .inl h
    · exact .inr (S.all z h)
  · rw [List.map_cons]
    refine List.pairwise_cons.2 ⟨fun z hz => ?_, S.ris⟩
    obtain ⟨t, ht, rfl⟩ := List.mem_map.1 hz
    exact up t ht
theorem above {x y : Nm} {b : List Nm} (h : x < y) (hb : ∀ z ∈ b, y < z) : ∀ z ∈ y :: b, x < z := fun z hz => by
  rcases List.mem_cons.1 hz with rfl | hz
  · exact h
  · exact nm_lt_trans h (hb z hz)
theorem side_spec : ∀ (n : Nat) (a b : List Nm), a.length + b.length ≤ n → Ris a → Ris b → Spec a b (side n a b)
  | 0, [], [], _, _, _ => ⟨fun t ht => by simp [side] at ht, fun s hs => by simp at hs, Ris.nil⟩
  | 0, x :: a, _, h, _, _ => by simp at h
  | 0, [], y :: b, h, _, _ => by simp at h
  | n + 1, [], [], _, _, _ => ⟨fun t ht => by simp [side] at ht, fun s hs => by simp at hs, Ris.nil⟩
  | n + 1, x :: a, [], h, ha, hb => by
    obtain ⟨a1, a2⟩ := List.pairwise_cons.1 ha
    exact (side_spec n a [] (by simp at h ⊢; omega) a2 hb).cons (by simp) (by simp) (.inl rfl) a1 (fun z hz => by simp at hz)
  | n + 1, [], y :: b, h, ha, hb => by
    obtain ⟨b1, b2⟩ := List.pairwise_cons.1 hb
    exact (side_spec n [] b (by simp at h ⊢; omega) ha b2).cons (by simp) (by simp) (.inr rfl) (fun z hz => by simp at hz) b1
  | n + 1, x :: a, y :: b, h, ha, hb => by
    obtain ⟨a1, a2⟩ := List.pairwise_cons.1 ha
    obtain ⟨b1, b2⟩ := List.pairwise_cons.1 hb
    rw [side]
    by_cases h1 : x < y
    · rw [if_pos h1]
      exact (side_spec n a (y :: b) (by simp at h ⊢; omega) a2 hb).cons (by simp) (by simp) (.inl rfl) a1 (above h1 b1)
    · rw [if_neg h1]
      by_cases h2 : y < x
      · rw [if_pos h2]
        exact (side_spec n (x :: a) b (by simp at h ⊢; omega) ha b2).cons (by simp) (by simp) (.inr rfl) (above h2 a1) b1
      · rw [if_neg h2]
        obtain rfl : x = y := by
          rcases nm_lt_or x y with g | g | g
          · exact absurd g h1
          · exact g
          · exact absurd g h2
        exact (side_spec n a b (by simp at h ⊢; omega) a2 b2).cons (by simp) (by simp) (.inl rfl) a1 b1
theorem side_len : ∀ (n : Nat) (a b : List Nm), (side n a b).length ≤ n
  | 0, _, _ => by simp [side]
  | n + 1, [], [] => by simp [side]
  | n + 1, x :: a, [] => by simpa [side] using side_len n a []
  | n + 1, [], y :: b => by simpa [side] using side_len n [] b
  | n + 1, x :: a, y :: b => by
    have h1 := side_len n a (y :: b)
    have h2 := side_len n (x :: a) b
    have h3 := side_len n a b
    rw [side]
    split
    · simp; omega
    · split
      · simp; omega
      · simp; omega
/-- those that are wanted -/
def pickd (f : Bool → Bool → Bool) (T : List Told) : List Nm := (T.filter (fun t => f t.2.1 t.2.2)).map (·.1)
theorem pickd_nil (f : Bool → Bool → Bool) : pickd f [] = [] := rfl
theorem pickd_yes {f : Bool → Bool → Bool} {T : List Told} {s : Nm} {X Y : Bool} (h : f X Y = true) : pickd f (T ++ [(s, X, Y)]) = pickd f T ++ [s] := by simp [pickd, h]
theorem pickd_no {f : Bool → Bool → Bool} {T : List Told} {s : Nm} {X Y : Bool} (h : f X Y = false) : pickd f (T ++ [(s, X, Y)]) = pickd f T := by simp [pickd, h]
theorem pickd_len (f : Bool → Bool → Bool) (T : List Told) : (pickd f T).length ≤ T.length := by
  unfold pickd
  rw [List.length_map]
  exact List.length_filter_le _ _
theorem Spec.mem {a b : List Nm} {R : List Told} (S : Spec a b R) (f : Bool → Bool → Bool) (s : Nm) : s ∈ pickd f R ↔ (s ∈ a ∨ s ∈ b) ∧ f (decide (s ∈ a)) (decide (s ∈ b)) = true := by
  unfold pickd
  rw [List.mem_map]
  constructor
  · rintro ⟨t, ht, rfl⟩
    obtain ⟨h1, h2⟩ := List.mem_filter.1 ht
    obtain ⟨t1, t2, t3⟩ := S.told t h1
    refine ⟨t1, ?_⟩
    rw [← t2, ← t3]
    exact h2
  · rintro ⟨h1, h2⟩
    obtain ⟨t, ht, e⟩ := List.mem_map.1 (S.all s h1)
    obtain ⟨t1, t2, t3⟩ := S.told t ht
    refine ⟨t, List.mem_filter.2 ⟨ht, ?_⟩, e⟩
    show f t.2.1 t.2.2 = true
    rw [t2, t3]
    have e' : t.1 = s := e
    rw [e']
    exact h2
theorem Spec.pick {a b : List Nm} {R : List Told} (S : Spec a b R) (f : Bool → Bool → Bool) : Ris (pickd f R) := S.ris.sublist (List.filter_sublist.map _)
theorem Spec.union {a b : List Nm} {R : List Told} (S : Spec a b R) (ha : Ris a) : pickd (fun x y => x || y) R = insAll a b := (S.pick _).ext (Ris.insAll b ha) fun s => by
  rw [S.mem, mem_insAll]; simp
theorem Spec.meet {a b : List Nm} {R : List Told} (S : Spec a b R) (ha : Ris a) : pickd (fun x y => x && y) R = meet a b := (S.pick _).ext (ha.meet b) fun s => by
  rw [S.mem, mem_meet]; simp
  exact fun h _ => .inl h
theorem Spec.less {a b : List Nm} {R : List Told} (S : Spec a b R) (ha : Ris a) : pickd (fun x y => x && !y) R = less a b := (S.pick _).ext (ha.less b) fun s => by
  rw [S.mem, mem_less]; simp
  exact fun h _ => .inl h
/-- all of one are in the other one -/
def inAll (T : List Told) : Bool := T.all (fun t => !(t.2.1 && !t.2.2))
theorem inAll_snoc (T : List Told) (s : Nm) (X Y : Bool) : inAll (T ++ [(s, X, Y)]) = (inAll T && !(X && !Y)) := by simp [inAll]
theorem Spec.inside {a b : List Nm} {R : List Told} (S : Spec a b R) : inAll R = true ↔ ∀ x ∈ a, x ∈ b := by
  unfold inAll
  rw [List.all_eq_true]
  constructor
  · intro h x hx
    obtain ⟨t, ht, e⟩ := List.mem_map.1 (S.all x (.inl hx))
    have e' : t.1 = x := e
    obtain ⟨_, t2, t3⟩ := S.told t ht
    have := h t ht
    rw [t2, t3, e'] at this
    simpa [hx] using this
  · intro h t ht
    obtain ⟨_, t2, t3⟩ := S.told t ht
    rw [t2, t3]
    by_cases k : t.1 ∈ a
    · simp [k, h _ k]
    · simp [k]
theorem union_one (l : List Nm) (s : Nm) : insAll l [s] = ins s l := rfl
theorem less_one (l : List Nm) (s : Nm) : less l [s] = del s l := by simp [less, del]

end Go.Proofs.Ytpbokncojemihaa
