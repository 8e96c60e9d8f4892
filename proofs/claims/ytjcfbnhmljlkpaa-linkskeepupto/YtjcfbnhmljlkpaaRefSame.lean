/- Whether two replies are the same, by the document: ref Same. -/
import Derived.Test.YtjcfbnhmljlkpaaSame
import Derived.Deep.QuietTactic
import Derived.Lib.QuietBelow
namespace Go.Proofs.Ytjcfbnhmljlkpaa
open Go.RowKit

/-- what ref Same tells of replies at most so deep -/
def RSameAt (d : Nat) : Prop := ∀ (v1 v2 : Value) (r1 r2 : Rep) (w : World), Rp All w d v1 r1 → Rp All w d v2 r2 →
  Calls Try.prog 26 #[v1, v2] w fun e w' => ∃ b : Bool, e = .returned (.bool b) ∧ Hid ((b = true ↔ r1 = r2) ∧ Below w.heap.size w w')
theorem RSameAt.yes {d : Nat} (h : RSameAt d) (v1 v2 : Value) (r : Rep) (w : World) (h1 : Rp All w d v1 r) (h2 : Rp All w d v2 r) :
    Calls Try.prog 26 #[v1, v2] w fun e w' => e = .returned (.bool true) ∧ Below w.heap.size w w' := by
  refine (h v1 v2 r r w h1 h2).mono ?_
  rintro e w' ⟨b, rfl, hh⟩
  obtain rfl := hh.out.1.2 rfl
  exact ⟨rfl, hh.out.2⟩
theorem RSameAt.no {d : Nat} (h : RSameAt d) (v1 v2 : Value) (r1 r2 : Rep) (hne : r1 ≠ r2) (w : World) (h1 : Rp All w d v1 r1) (h2 : Rp All w d v2 r2) :
    Calls Try.prog 26 #[v1, v2] w fun e w' => e = .returned (.bool false) ∧ Below w.heap.size w w' := by
  refine (h v1 v2 r1 r2 w h1 h2).mono ?_
  rintro e w' ⟨b, rfl, hh⟩
  cases b
  · exact ⟨rfl, hh.out.2⟩
  · exact absurd (hh.out.1.1 rfl) hne
set_option maxHeartbeats 2000000 in
set_option maxRecDepth 100000 in
theorem rsame_of {d : Nat} (ih : RSameAt d) : RSameAt (d + 1) := by
  intro v1 v2 r1 r2 w h1 h2
  obtain ⟨p1, c1, rfl, f1, R1⟩ := h1
  obtain ⟨p2, c2, rfl, f2, R2⟩ := h2
  obtain ⟨k1, n1, t1, l1⟩ := r1
  obtain ⟨k2, n2, t2, l2⟩ := r2
  have hl1 := f1.l
  have H1 := hid R1
  have H2 := hid R2
  have IH := hid ih
  clear R1 R2 f1 f2 ih
  simp only [Rep.kind, Rep.int, Rep.text, Rep.list] at H1 H2 hl1 ⊢
  by_cases hk : k1 = k2
  · by_cases hn : n1 = n2
    · by_cases ht : t1 = t2
      · by_cases hll : l1.length = l2.length
        · subst hk hn ht
          have Hll := hid hll
          rw [← hll]
          have hne : ((l1.length : Int) != (l1.length : Int)) = false := by simp
          clear hll
          go_enter Try.func26, Try.ntmps26
          go_wp2
          go_loopw [5] (fun v5 W => ∃ k : Nat, v5 = .int .i64 k ∧ k ≤ l1.length ∧ Hid (l1.drop k = l2.drop k ↔ l1 = l2) ∧ Hid (Below w.heap.size w W) ∧ W.cell? ⟨w.heap.size, 3, none⟩ = some (.slice p1 l1.length c1) ∧ W.cell? ⟨w.heap.size + 1, 3, none⟩ = some (.slice p2 l1.length c2)) (fun v5 _ => l1.length - (intOf v5).toNat)
          case atStart => exact ⟨0, rfl, Nat.zero_le _, by simp [Hid], below2 w _ _, by simp, by simp⟩
          case round =>
            obtain ⟨k, rfl, hk, HD, HB, e1, e2⟩ := hrel
            by_cases hlt : k < l1.length
            · have hlt2 : k < l2.length := by rw [← Hll.out]; exact hlt
              have hlz : (k : Int) < (l1.length : Int) := by omega
              obtain ⟨b1, o1, rfl, -, hx1⟩ := H1.out (fun e => by rw [e] at hlt; simp at hlt)
              obtain ⟨b2, o2, rfl, -, hx2⟩ := H2.out (fun e => by rw [e] at hlt2; simp at hlt2)
              obtain ⟨q1, m1, c10, c11, c12, c13, R1⟩ := hx1 k hlt
              obtain ⟨q2, m2, c20, c21, c22, c23, R2⟩ := hx2 k hlt2
              have HS := hid (drop_step hlt)
              have HS2 := hid (drop_step hlt2)
              have hB1 := block_lt_of_cell c10
              have hB2 := block_lt_of_cell c20
              rw [← HB.out.cell (p := ⟨b1, o1 + k * 4, none⟩) hB1] at c10
              rw [← HB.out.cell (p := ⟨b1, o1 + k * 4 + 1, none⟩) hB1] at c11
              rw [← HB.out.cell (p := ⟨b1, o1 + k * 4 + 2, none⟩) hB1] at c12
              rw [← HB.out.cell (p := ⟨b1, o1 + k * 4 + 3, none⟩) hB1] at c13
              rw [← HB.out.cell (p := ⟨b2, o2 + k * 4, none⟩) hB2] at c20
              rw [← HB.out.cell (p := ⟨b2, o2 + k * 4 + 1, none⟩) hB2] at c21
              rw [← HB.out.cell (p := ⟨b2, o2 + k * 4 + 2, none⟩) hB2] at c22
              rw [← HB.out.cell (p := ⟨b2, o2 + k * 4 + 3, none⟩) hB2] at c23
              have HR1 := hid (R1.below HB.out (Nat.le_refl _))
              have HR2 := hid (R2.below HB.out (Nat.le_refl _))
              generalize l1[k] = r1 at *
              generalize l2[k] = r2 at *
              clear hx1 hx2 R1 R2 hB1 hB2
              have g10 := cell_regrown c10
              have g11 := cell_regrown c11
              have g12 := cell_regrown c12
              have g13 := cell_regrown c13
              have g20 := cell_regrown c20
              have g21 := cell_regrown c21
              have g22 := cell_regrown c22
              have g23 := cell_regrown c23
              have x1 := cell_regrown e1
              have x2 := cell_regrown e2
              by_cases hr : r1 = r2
              · subst hr
                have C1 := hid fun dd os => Calls.regrown_of (IH.out.yes _ _ _ (Sort.grow (redrawn wr dd) os) (HR1.out.below (below_regrown wr dd os) (Nat.le_refl _)) (HR2.out.below (below_regrown wr dd os) (Nat.le_refl _)))
                go_wp2_with fail
                refine wp_region_quiet_below (by kernel_rfl) (by kernel_rfl) ?_
                repeat (quiet_step (exact C1.out _ _))
                refine wpQuiet_nil ?_
                intro _ hw'
                obtain ⟨⟨dq, osq⟩, hw''⟩ := hw'
                subst hw''
                go_wp2
                refine ⟨⟨k + 1, by go_num, by omega, ?_, HB.out.trans ((below_regrown wr dq osq).mono HB.out.size), x1 _ _, x2 _ _⟩, by simp [intOf]; omega⟩
                have h4 := HD.out
                rw [HS.out, HS2.out] at h4
                exact ⟨fun h => h4.1 (by rw [h]), fun h => (heads (h4.2 h)).2⟩
              · have C1 := hid fun dd os => Calls.regrown_of (IH.out.no _ _ _ _ hr (Sort.grow (redrawn wr dd) os) (HR1.out.below (below_regrown wr dd os) (Nat.le_refl _)) (HR2.out.below (below_regrown wr dd os) (Nat.le_refl _)))
                have Hr := hid hr
                clear hr
                go_wp2_with fail
                refine wp_region_quiet_below (by kernel_rfl) (by kernel_rfl) ?_
                repeat (quiet_step (exact C1.out _ _))
                refine wpQuiet_nil ?_
                intro _ hw'
                obtain ⟨⟨dq, osq⟩, hw''⟩ := hw'
                subst hw''
                go_wp2
                go_ret
                refine ⟨false, rfl, ⟨by simp, fun h => ?_⟩, HB.out.trans ((below_regrown wr dq osq).mono HB.out.size)⟩
                have h3 := HD.out.2 (by injection h)
                rw [HS.out, HS2.out] at h3
                exact absurd (heads h3).1 Hr.out
            · have hD := HD.out
              rw [List.drop_eq_nil_of_le (by omega), List.drop_eq_nil_of_le (by have := Hll.out; omega)] at hD
              have HD1 := hid (hD.1 rfl)
              clear hD
              go_wp2
              go_ret
              exact ⟨true, rfl, ⟨fun _ => by rw [HD1.out], fun _ => rfl⟩, HB.out⟩
        · have hkb : (k1 != k2) = false := by simp [hk]
          have hnb : (n1 != n2) = false := by simp [hn]
          have hlb : ((l1.length : Int) != (l2.length : Int)) = true := by simp; omega
          subst ht
          go_enter Try.func26, Try.ntmps26
          go_wp2
          go_ret
          exact ⟨false, rfl, ⟨by simp, fun h => absurd (by injection h with _ _ _ h; rw [h]) hll⟩, below2 w _ _⟩
      · have hkb : (k1 != k2) = false := by simp [hk]
        have hnb : (n1 != n2) = false := by simp [hn]
        go_enter Try.func26, Try.ntmps26
        go_wp2
        go_ret
        exact ⟨false, rfl, ⟨by simp, fun h => absurd (by injection h) ht⟩, below2 w _ _⟩
    · have hkb : (k1 != k2) = false := by simp [hk]
      have hnb : (n1 != n2) = true := by simp [hn]
      go_enter Try.func26, Try.ntmps26
      go_wp2
      go_ret
      exact ⟨false, rfl, ⟨by simp, fun h => absurd (by injection h) hn⟩, below2 w _ _⟩
  · have hkb : (k1 != k2) = true := by simp [hk]
    go_enter Try.func26, Try.ntmps26
    go_wp2
    go_ret
    exact ⟨false, rfl, ⟨by simp, fun h => absurd (by injection h) hk⟩, below2 w _ _⟩
theorem rsame_at : ∀ d, RSameAt d
  | 0 => fun _ _ _ _ _ h => h.elim
  | d + 1 => rsame_of (rsame_at d)
/-- ref Same -/
theorem rsame_any {d1 d2 : Nat} (v1 v2 : Value) (r1 r2 : Rep) (w : World) (h1 : Rp All w d1 v1 r1) (h2 : Rp All w d2 v2 r2) :
    Calls Try.prog 26 #[v1, v2] w fun e w' => ∃ b : Bool, e = .returned (.bool b) ∧ Hid ((b = true ↔ r1 = r2) ∧ Below w.heap.size w w') :=
  rsame_at (max d1 d2) v1 v2 r1 r2 w (h1.all (Nat.le_max_left _ _)) (h2.all (Nat.le_max_right _ _))

end Go.Proofs.Ytjcfbnhmljlkpaa
