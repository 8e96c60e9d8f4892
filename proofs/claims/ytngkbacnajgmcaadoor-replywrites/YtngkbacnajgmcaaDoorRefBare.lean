/- Whether a reply has nothing that its kind does not use, by the document: ref bare. -/
import Derived.Test.YtngkbacnajgmcaaDoorWrite
namespace Go.Proofs.YtngkbacnajgmcaaDoor
open Go.RowKit

def bareB (r : Rep) : Bool := !(decide (¬ r.kind = 1 ∧ ¬ r.kind = 2 ∧ ¬ r.kind = 4 ∧ ¬ r.text = [])) && (!(decide (¬ r.kind = 3 ∧ ¬ r.int = 0)) && decide (r.kind = 6 ∨ r.list.length = 0))
theorem bare_mk (k n : Int) (t : List UInt8) (l : List Rep) : bareB (.mk k n t l) = (!(decide (¬ k = 1 ∧ ¬ k = 2 ∧ ¬ k = 4 ∧ ¬ t = [])) && (!(decide (¬ k = 3 ∧ ¬ n = 0)) && decide (k = 6 ∨ l.length = 0))) := rfl
theorem bare_cases {k n : Int} {t : List UInt8} {l : List Rep} (h : bareB (.mk k n t l) = true) : ((k = 1 ∨ k = 2 ∨ k = 4) ∨ t = []) ∧ (k = 3 ∨ n = 0) ∧ (k = 6 ∨ l = []) := by
  rw [bare_mk] at h
  simp only [Bool.and_eq_true, Bool.not_eq_true', decide_eq_false_iff_not, decide_eq_true_eq] at h
  obtain ⟨h1, h2, h3⟩ := h
  refine ⟨?_, ?_, ?_⟩
  · by_cases ht : t = []
    · exact .inr ht
    · left
      by_cases h4 : k = 1
      · exact .inl h4
      · by_cases h5 : k = 2
        · exact .inr (.inl h5)
        · by_cases h6 : k = 4
          · exact .inr (.inr h6)
          · exact absurd ⟨h4, h5, h6, ht⟩ h1
  · by_cases h4 : k = 3
    · exact .inl h4
    · by_cases h5 : n = 0
      · exact .inr h5
      · exact absurd ⟨h4, h5⟩ h2
  · rcases h3 with h | h
    · exact .inl h
    · exact .inr (List.eq_nil_of_length_eq_zero h)
set_option maxHeartbeats 4000000 in
set_option maxRecDepth 100000 in
/-- ref bare -/
theorem bare_any (v : Value) (r : Rep) (d : Nat) (w : World) (h : Rp All w d v r) :
    Calls Tryd.prog 28 #[v] w fun e w' => e = .returned (.bool (bareB r)) ∧ Hid (Below w.heap.size w w') := by
  obtain ⟨d, p, c, rfl, rfl, f, -⟩ := h.open
  obtain ⟨k, n, t, l⟩ := r
  have hl := f.l
  obtain ⟨V, hV⟩ : ∃ V, V = bareB (.mk k n t l) := ⟨_, rfl⟩
  rw [← hV]
  rw [bare_mk] at hV
  simp only [Rep.kind, Rep.int, Rep.text, Rep.list] at hl ⊢
  clear f h
  by_cases k1 : k = 1
  · subst k1
    by_cases hn : n = 0
    · subst hn
      by_cases h0 : l.length = 0
      · rw [h0] at hV ⊢
        obtain rfl : V = true := by rw [hV]; simp
        clear hV
        go_enter Tryd.func28, Tryd.ntmps28
        go_wp2_with fail
        go_ret
        exact ⟨rfl, below_alloc w _⟩
      · have h0z : ((l.length : Int) == 0) = false := beq_eq_false_iff_ne.2 (by omega)
        have h0n : ¬ l = [] := fun e => h0 (by rw [e]; rfl)
        obtain rfl : V = false := by rw [hV]; simp [h0n]
        clear hV
        go_enter Tryd.func28, Tryd.ntmps28
        go_wp2_with fail
        go_ret
        exact ⟨rfl, below_alloc w _⟩
    · have hnz : (n != 0) = true := by simp [hn]
      obtain rfl : V = false := by rw [hV]; simp [hn]
      clear hV
      go_enter Tryd.func28, Tryd.ntmps28
      go_wp2_with fail
      go_ret
      exact ⟨rfl, below_alloc w _⟩
  have k1z : (k != 1) = true := by simp [k1]
  by_cases k2 : k = 2
  · subst k2
    by_cases hn : n = 0
    · subst hn
      by_cases h0 : l.length = 0
      · rw [h0] at hV ⊢
        obtain rfl : V = true := by rw [hV]; simp
        clear hV
        go_enter Tryd.func28, Tryd.ntmps28
        go_wp2_with fail
        go_ret
        exact ⟨rfl, below_alloc w _⟩
      · have h0z : ((l.length : Int) == 0) = false := beq_eq_false_iff_ne.2 (by omega)
        have h0n : ¬ l = [] := fun e => h0 (by rw [e]; rfl)
        obtain rfl : V = false := by rw [hV]; simp [h0n]
        clear hV
        go_enter Tryd.func28, Tryd.ntmps28
        go_wp2_with fail
        go_ret
        exact ⟨rfl, below_alloc w _⟩
    · have hnz : (n != 0) = true := by simp [hn]
      obtain rfl : V = false := by rw [hV]; simp [hn]
      clear hV
      go_enter Tryd.func28, Tryd.ntmps28
      go_wp2_with fail
      go_ret
      exact ⟨rfl, below_alloc w _⟩
  have k2z : (k != 2) = true := by simp [k2]
  by_cases k4 : k = 4
  · subst k4
    by_cases hn : n = 0
    · subst hn
      by_cases h0 : l.length = 0
      · rw [h0] at hV ⊢
        obtain rfl : V = true := by rw [hV]; simp
        clear hV
        go_enter Tryd.func28, Tryd.ntmps28
        go_wp2_with fail
        go_ret
        exact ⟨rfl, below_alloc w _⟩
      · have h0z : ((l.length : Int) == 0) = false := beq_eq_false_iff_ne.2 (by omega)
        have h0n : ¬ l = [] := fun e => h0 (by rw [e]; rfl)
        obtain rfl : V = false := by rw [hV]; simp [h0n]
        clear hV
        go_enter Tryd.func28, Tryd.ntmps28
        go_wp2_with fail
        go_ret
        exact ⟨rfl, below_alloc w _⟩
    · have hnz : (n != 0) = true := by simp [hn]
      obtain rfl : V = false := by rw [hV]; simp [hn]
      clear hV
      go_enter Tryd.func28, Tryd.ntmps28
      go_wp2_with fail
      go_ret
      exact ⟨rfl, below_alloc w _⟩
  have k4z : (k != 4) = true := by simp [k4]
  by_cases ht : t = []
  · subst ht
    by_cases k3 : k = 3
    · subst k3
      by_cases h0 : l.length = 0
      · rw [h0] at hV ⊢
        obtain rfl : V = true := by rw [hV]; simp 
        clear hV
        go_enter Tryd.func28, Tryd.ntmps28
        go_wp2_with fail
        go_ret
        exact ⟨rfl, below_alloc w _⟩
      · have h0z : ((l.length : Int) == 0) = false := beq_eq_false_iff_ne.2 (by omega)
        have h0n : ¬ l = [] := fun e => h0 (by rw [e]; rfl)
        obtain rfl : V = false := by rw [hV]; simp [h0n]
        clear hV
        go_enter Tryd.func28, Tryd.ntmps28
        go_wp2_with fail
        go_ret
        exact ⟨rfl, below_alloc w _⟩
    have k3z : (k != 3) = true := by simp [k3]
    by_cases k6 : k = 6
    · subst k6
      by_cases hn : n = 0
      · subst hn
        obtain rfl : V = true := by rw [hV]; simp 
        clear hV
        go_enter Tryd.func28, Tryd.ntmps28
        go_wp2_with fail
        go_ret
        exact ⟨rfl, below_alloc w _⟩
      · have hnz : (n != 0) = true := by simp [hn]
        obtain rfl : V = false := by rw [hV]; simp [hn]
        clear hV
        go_enter Tryd.func28, Tryd.ntmps28
        go_wp2_with fail
        go_ret
        exact ⟨rfl, below_alloc w _⟩
    have k6z : (k == 6) = false := beq_eq_false_iff_ne.2 k6
    by_cases hn : n = 0
    · subst hn
      by_cases h0 : l.length = 0
      · rw [h0] at hV ⊢
        obtain rfl : V = true := by rw [hV]; simp [k6, k3, k1, k2, k4]
        clear hV
        go_enter Tryd.func28, Tryd.ntmps28
        go_wp2_with fail
        go_ret
        exact ⟨rfl, below_alloc w _⟩
      · have h0z : ((l.length : Int) == 0) = false := beq_eq_false_iff_ne.2 (by omega)
        have h0n : ¬ l = [] := fun e => h0 (by rw [e]; rfl)
        obtain rfl : V = false := by rw [hV]; simp [k6, k3, k1, k2, k4, h0n]
        clear hV
        go_enter Tryd.func28, Tryd.ntmps28
        go_wp2_with fail
        go_ret
        exact ⟨rfl, below_alloc w _⟩
    · have hnz : (n != 0) = true := by simp [hn]
      obtain rfl : V = false := by rw [hV]; simp [k6, k3, k1, k2, k4, hn]
      clear hV
      go_enter Tryd.func28, Tryd.ntmps28
      go_wp2_with fail
      go_ret
      exact ⟨rfl, below_alloc w _⟩
  · have hte : t.isEmpty = false := by simp [ht]
    obtain rfl : V = false := by rw [hV]; simp [k1, k2, k4, ht]
    clear hV
    go_enter Tryd.func28, Tryd.ntmps28
    go_wp2_with fail
    go_ret
    exact ⟨rfl, below_alloc w _⟩

end Go.Proofs.YtngkbacnajgmcaaDoor
