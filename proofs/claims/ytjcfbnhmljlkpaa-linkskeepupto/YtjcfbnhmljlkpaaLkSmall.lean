/- Replies that are not too great: the law's small. -/
import Derived.Test.YtjcfbnhmljlkpaaLkRSame
namespace Go.Proofs.Ytjcfbnhmljlkpaa
open Go.RowKit

/-- so many lists within each other at most, of 50 things each -/
def Sm : Nat → Rep → Prop
  | 0, _ => False
  | k + 1, r => r.list.length ≤ 50 ∧ ∀ i (h : i < r.list.length), Sm k r.list[i]
def SmallAt (k : Nat) : Prop := ∀ (dz : Int) (v : Value) (r : Rep) (d : Nat) (w : World), dz = 9 - (k : Int) → k ≤ 9 → Rp All w d v r →
  Calls Try.prog 19 #[v, .int .i64 dz] w fun e w' => ∃ b : Bool, e = .returned (.bool b) ∧ Hid ((b = true → Sm k r) ∧ Below w.heap.size w w')
set_option maxHeartbeats 2000000 in
set_option maxRecDepth 100000 in
theorem small_zero : SmallAt 0 := by
  intro dz v r d w hdz hk h
  obtain ⟨d, p, c, rfl, rfl, f, R⟩ := h.open
  have h8 : (8 : Int) < dz := by omega
  obtain ⟨kd, n, t, l⟩ := r
  simp only [Rep.kind, Rep.int, Rep.text, Rep.list]
  clear h R f hdz hk
  go_enter Try.func19, Try.ntmps19
  go_wp2_with fail
  go_ret
  first | exact ⟨false, rfl, by simp, below_alloc w _⟩ | exact .inl ⟨rfl, below_alloc w _⟩
set_option maxHeartbeats 2000000 in
set_option maxRecDepth 100000 in
theorem small_of {k : Nat} (ih : SmallAt k) : SmallAt (k + 1) := by
  intro dz v r d w hdz hk h
  obtain ⟨d, p, c, rfl, rfl, f, R⟩ := h.open
  obtain ⟨kd, n, t, l⟩ := r
  have hl := f.l
  simp only [Rep.kind, Rep.int, Rep.text, Rep.list] at R hl ⊢
  have hd8 : ¬ (8 : Int) < dz := by omega
  have HI := hid fun (v : Value) (r : Rep) (w : World) h => ih (dz + 1) v r d w (by omega) (by omega) h
  have hd0 : 0 ≤ dz := by omega
  have H := hid R
  clear R f h ih hdz
  by_cases h50 : l.length ≤ 50
  · have h50z : ¬ (50 : Int) < (l.length : Int) := by omega
    go_enter Try.func19, Try.ntmps19
    go_wp2
    go_loopw [18] (fun v18 W => ∃ i : Nat, v18 = .int .i64 i ∧ i ≤ l.length ∧ Hid (∀ j (h : j < l.length), j < i → Sm k l[j]) ∧ Hid (Below w.heap.size w W)) (fun v18 _ => l.length - (intOf v18).toNat)
    case atStart => exact ⟨0, rfl, Nat.zero_le _, fun j _ h => absurd h (by omega), below_alloc w _⟩
    case round =>
      obtain ⟨i, rfl, hi, HD, HB⟩ := hrel
      by_cases hlt : i < l.length
      · have hlz : (i : Int) < (l.length : Int) := by omega
        obtain ⟨b1, o1, rfl, -, hx1⟩ := H.out (fun e => by rw [e] at hlt; simp at hlt)
        obtain ⟨q1, m1, c10, c11, c12, c13, R1⟩ := hx1 i hlt
        have hB1 := block_lt_of_cell c10
        rw [← HB.out.cell (p := ⟨b1, o1 + i * 4, none⟩) hB1] at c10
        rw [← HB.out.cell (p := ⟨b1, o1 + i * 4 + 1, none⟩) hB1] at c11
        rw [← HB.out.cell (p := ⟨b1, o1 + i * 4 + 2, none⟩) hB1] at c12
        rw [← HB.out.cell (p := ⟨b1, o1 + i * 4 + 3, none⟩) hB1] at c13
        have HC := hid fun o => HI.out _ l[i] (wr.alloc o) ((R1.below HB.out (Nat.le_refl _)).below (below_alloc wr o) (Nat.le_refl _))
        have HN : Hid (Sm k l[i] → ∀ j (h : j < l.length), j < i + 1 → Sm k l[j]) := fun hs j hj hji => by
          by_cases e : j = i
          · subst e; exact hs
          · exact HD.out j hj (by omega)
        generalize l[i] = x at *
        clear hx1 R1 hB1
        go_wp2_with fail
        refine (HC.out _).mono ?_; rintro e w2 ⟨b, rfl, hh⟩
        have HB2 := hid ((HB.out.alloc HB.out.size _).trans (hh.out.2.mono (by have := HB.out.size; simp; omega)))
        have HQ := hid hh.out.1
        clear hh HC
        cases b
        · go_wp2
          go_ret
          exact ⟨false, rfl, by simp, HB2.out⟩
        · go_wp2
          exact ⟨⟨i + 1, by go_num, by omega, HN.out (HQ.out trivial), HB2.out⟩, by simp [intOf]; omega⟩
      · go_wp2
        go_ret
        exact ⟨true, rfl, fun _ => ⟨h50, fun j hj => HD.out j hj (by simp only [Rep.list] at hj; omega)⟩, HB.out⟩
  · have h50z : (50 : Int) < (l.length : Int) := by omega
    go_enter Try.func19, Try.ntmps19
    go_wp2
    go_ret
    first | exact ⟨false, rfl, by simp, below_alloc w _⟩ | exact .inl ⟨rfl, below_alloc w _⟩
theorem small_at : ∀ k, SmallAt k
  | 0 => small_zero
  | k + 1 => small_of (small_at k)
/-- small -/
theorem small_any (v : Value) (r : Rep) (d : Nat) (w : World) (h : Rp All w d v r) :
    Calls Try.prog 19 #[v, .int .i64 0] w fun e w' => ∃ b : Bool, e = .returned (.bool b) ∧ Hid ((b = true → Sm 9 r) ∧ Below w.heap.size w w') :=
  small_at 9 0 v r d w (by decide) (by decide) h

end Go.Proofs.Ytjcfbnhmljlkpaa
