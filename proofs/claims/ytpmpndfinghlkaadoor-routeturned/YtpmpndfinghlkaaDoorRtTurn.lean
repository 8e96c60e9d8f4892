/- Lists turned about: plain mathematics of RouteTurned; a row of Bools that is filled from its end. -/
import Derived.Test.YtpmpndfinghlkaaDoorLawRt3
import Derived.Test.YtpmpndfinghlkaaDoorRtMark
import Derived.Laws.MakeOwn
namespace Go.Proofs.YtpmpndfinghlkaaDoor
open Go.RowKit

theorem someB_iff (L : List Bool) : ∀ n, someB L n = true ↔ ∃ k, k < n ∧ atB L k = true
  | 0 => by simp [someB]
  | n + 1 => by
    have ih := someB_iff L n
    simp only [someB, Bool.or_eq_true, ih]
    constructor
    · rintro (⟨k, h, e⟩ | e)
      · exact ⟨k, by omega, e⟩
      · exact ⟨n, by omega, e⟩
    · rintro ⟨k, h, e⟩
      by_cases hk : k = n
      · subst hk; exact .inr e
      · exact .inl ⟨k, by omega, e⟩
theorem allB_iff (L : List Bool) : ∀ n, allB L n = true ↔ ∀ k, k < n → atB L k = true
  | 0 => by simp [allB]
  | n + 1 => by
    have ih := allB_iff L n
    simp only [allB, Bool.and_eq_true, ih]
    constructor
    · rintro ⟨h, e⟩ k hk
      by_cases hkn : k = n
      · subst hkn; exact e
      · exact h k (by omega)
    · exact fun h => ⟨fun k hk => h k (by omega), h n (by omega)⟩
/-- a list's first n, turned about -/
def turnB (L : List Bool) (n : Nat) : List Bool := (List.range n).map fun k => atB L (n - 1 - k)
theorem turnB_len (L : List Bool) (n : Nat) : (turnB L n).length = n := by simp [turnB]
theorem turnB_at (L : List Bool) {n k : Nat} (h : k < n) : atB (turnB L n) k = atB L (n - 1 - k) := by
  rw [atB_is (by rw [turnB_len]; exact h)]
  simp [turnB]
theorem bool_iff {a b : Bool} (h : a = true ↔ b = true) : a = b := by
  cases a <;> cases b <;> simp_all
theorem turnB_some (L : List Bool) (n : Nat) : someB (turnB L n) n = someB L n := bool_iff (by
  rw [someB_iff, someB_iff]
  constructor
  · rintro ⟨k, h, e⟩; exact ⟨n - 1 - k, by omega, by rw [← turnB_at L h]; exact e⟩
  · rintro ⟨k, h, e⟩; exact ⟨n - 1 - k, by omega, by rw [turnB_at L (by omega), show n - 1 - (n - 1 - k) = k by omega]; exact e⟩)
theorem turnB_all (L : List Bool) (n : Nat) : allB (turnB L n) n = allB L n := bool_iff (by
  rw [allB_iff, allB_iff]
  constructor
  · intro h k hk; have := h (n - 1 - k) (by omega); rwa [turnB_at L (by omega), show n - 1 - (n - 1 - k) = k by omega] at this
  · intro h k hk; rw [turnB_at L hk]; exact h _ (by omega))
/-- a case with its lists turned about -/
def turned (c : CaseV) : CaseV := { c with here := turnB c.here c.slots.length, held := turnB c.held c.slots.length }
theorem decide_turned (c : CaseV) : decideV (turned c) = decideV c := by
  have h1 := turnB_some c.here c.slots.length
  have h2 := turnB_all c.here c.slots.length
  have h3 := turnB_some c.held c.slots.length
  unfold decideV
  show (if c.slots.length = 0 then _ else if sameS c.slots (c.slots.getD 0 0) c.slots.length = false then _ else restV (turned c) (c.slots.getD 0 0) (someB (turnB c.here c.slots.length) c.slots.length) (allB (turnB c.here c.slots.length) c.slots.length) (someB (turnB c.held c.slots.length) c.slots.length)) = _
  rw [h1, h2, h3]
  rfl
theorem infoB : (Tryd.prog.info? 4).map (fun i => (i.zero, i.size, i.bytes)) = some (some (.bool false), 1, 1) := by kernel_rfl
theorem make_bools (n : Nat) (hn : n ≤ 100) (u : World) : (Instr.makeSlice 23 (.int .i64 (n : Int)) (.int .i64 (n : Int))).run Tryd.prog u =
    .ok (.slice (some ⟨u.heap.size, 0, none⟩) n n) (u.alloc (.cells (List.replicate n (.bool false)).toArray 4)) := by
  obtain ⟨i0, hi, hz0, hz1, hz2⟩ := info_parts infoB
  have h := run_make (P := Tryd.prog) u 23 4 i0 (.bool false) Tryd.underlying23 hi hz0 .i64 .i64 (n : Int) (n : Int) (by omega) (Int.le_refl _) (by rw [hz2]; omega) (by omega)
  have e : madeCells (Value.bool false).cells n = (List.replicate n (.bool false)).toArray := by
    apply Array.ext'
    rw [show (Value.bool false).cells = #[Value.bool false] from rfl, toList_madeCells_one]
  rw [hz1, Nat.mul_one, Int.toNat_natCast, e] at h
  exact h
/-- a row of n Bools of which the last i are laid: what the list has, turned about -/
def Fl (W : World) (b n : Nat) (L : List Bool) (i : Nat) : Prop :=
  ∃ C, W.heap[b]? = some (.cells C 4 (0, 0)) ∧ C.size = n ∧ (∀ j, j < n → ∃ x, C[j]? = some (.bool x)) ∧ ∀ j, j < i → j < n → C[n - 1 - j]? = some (.bool (atB L j))
theorem Fl.new (W : World) (n : Nat) (L : List Bool) : Fl (W.alloc (.cells (List.replicate n (.bool false)).toArray 4)) W.heap.size n L 0 :=
  ⟨_, heap_alloc_new W _, by simp, fun j hj => ⟨false, by rw [List.getElem?_toArray, List.getElem?_replicate, if_pos hj]⟩, fun j hj => by omega⟩
theorem Fl.same {W W' : World} {b n : Nat} {L : List Bool} {i : Nat} (h : Fl W b n L i) (he : W'.heap[b]? = W.heap[b]?) : Fl W' b n L i := by
  obtain ⟨C, h1, h2⟩ := h
  exact ⟨C, he.trans h1, h2⟩
theorem Fl.lt {W : World} {b n : Nat} {L : List Bool} {i : Nat} (h : Fl W b n L i) : b < W.heap.size := by
  obtain ⟨C, h1, -⟩ := h
  exact (Array.getElem?_eq_some_iff.1 h1).1
theorem Fl.cell {W : World} {b n : Nat} {L : List Bool} {i : Nat} (h : Fl W b n L i) (j : Nat) (hj : j < n) : (∃ x, W.cell? ⟨b, j, none⟩ = some (.bool x)) ∧ W.frozen? ⟨b, j, none⟩ = false := by
  obtain ⟨C, h1, h2, h3, -⟩ := h
  obtain ⟨x, hx⟩ := h3 j hj
  exact ⟨⟨x, by rw [cell_of_row _ _ j _ _ _ h1]; exact hx⟩, by simp [World.frozen?, h1]⟩
theorem Fl.put {W : World} {b n : Nat} {L : List Bool} {i : Nat} (h : Fl W b n L i) (hi : i < n) (x : Bool) (hx : atB L i = x) : Fl (W.setCell ⟨b, n - 1 - i, none⟩ (.bool x)) b n L (i + 1) := by
  obtain ⟨C, h1, h2, h3, h4⟩ := h
  refine ⟨C.setIfInBounds (n - 1 - i) (.bool x), heap_setCell_same W _ _ _ _ _ h1, by simpa using h2, fun j hj => ?_, fun j hj hjn => ?_⟩
  · by_cases e : j = n - 1 - i
    · subst e; exact ⟨x, Array.getElem?_setIfInBounds_self_of_lt (by omega)⟩
    · rw [Array.getElem?_setIfInBounds_ne (by omega)]; exact h3 j hj
  · by_cases e : j = i
    · subst e; rw [Array.getElem?_setIfInBounds_self_of_lt (by omega), hx]
    · rw [Array.getElem?_setIfInBounds_ne (by omega)]; exact h4 j (by omega) hjn
theorem Fl.row {W : World} {b n : Nat} {L : List Bool} (h : Fl W b n L n) : BoolsR W (some ⟨b, 0, none⟩) (turnB L n) := fun _ => by
  obtain ⟨C, h1, h2, h3, h4⟩ := h
  refine ⟨b, 0, rfl, (Array.getElem?_eq_some_iff.1 h1).1, fun j hj => ?_⟩
  have hj' : j < n := by rw [turnB_len] at hj; exact hj
  have := h4 (n - 1 - j) (by omega) (by omega)
  rw [show n - 1 - (n - 1 - j) = j by omega] at this
  rw [cell_of_row _ _ (0 + j) _ _ _ h1, Nat.zero_add, this]
  simp [turnB]

end Go.Proofs.YtpmpndfinghlkaaDoor
