/- Whether two replies are the same: reply.Same, slices.EqualFunc. -/
import Derived.Test.YtngkbacnajgmcaaDoorRep
namespace Go.Proofs.YtngkbacnajgmcaaDoor
open Go.RowKit

/-- what Same tells of replies at most so deep -/
def SameAt (d : Nat) : Prop := ∀ (v1 v2 : Value) (r1 r2 : Rep) (w : World), Rp All w d v1 r1 → Rp All w d v2 r2 →
  Calls Tryd.prog 14 #[v1, v2] w fun e w' => ∃ b : Bool, e = .returned (.bool b) ∧ Hid ((b = true ↔ r1 = r2) ∧ Below w.heap.size w w')
theorem heads {r1 r2 : Rep} {l1 l2 : List Rep} (h : r1 :: l1 = r2 :: l2) : r1 = r2 ∧ l1 = l2 := by simpa using h
theorem drop_step {l : List Rep} {k : Nat} (h : k < l.length) : l.drop k = l[k] :: l.drop (k + 1) := by rw [List.drop_eq_getElem_cons h]
theorem below2 (w : World) (o o' : Obj) : Below w.heap.size w ((w.alloc o).alloc o') := (below_alloc w o).alloc (by simp) o'
set_option maxHeartbeats 2000000 in
set_option maxRecDepth 100000 in
theorem equal_of {d : Nat} (ih : SameAt d) (p1 p2 : Option Addr) (l1 l2 : List Rep) (c1 c2 : Nat) (w : World) (h1 : RowOf All w (Rp All w d) p1 l1) (h2 : RowOf All w (Rp All w d) p2 l2) (hl1 : l1.length ≤ 9223372036854775807) :
    Calls Tryd.prog 21 #[.slice p1 l1.length c1, .slice p2 l2.length c2, .func (.func 14) #[] #[]] w fun e w' => ∃ b : Bool, e = .returned (.bool b) ∧ Hid ((b = true ↔ l1 = l2) ∧ Below w.heap.size w w') := by
  have H1 := hid h1
  have H2 := hid h2
  have IH := hid ih
  clear h1 h2 ih
  by_cases hll : l1.length = l2.length
  · have Hll := hid hll
    have hne : ((l1.length : Int) != (l2.length : Int)) = false := by simp [hll]
    clear hll
    go_enter Tryd.func21, Tryd.ntmps21
    go_wp2
    go_loopw [17] (fun v17 W => ∃ k : Nat, v17 = .int .i64 k ∧ k ≤ l1.length ∧ Hid (l1.drop k = l2.drop k ↔ l1 = l2) ∧ Hid (Below w.heap.size w W)) (fun v17 _ => l1.length - (intOf v17).toNat)
    case atStart => exact ⟨0, rfl, Nat.zero_le _, by simp [Hid], Below.refl _ _⟩
    case round =>
      obtain ⟨k, rfl, hk, HD, HB⟩ := hrel
      by_cases hlt : k < l1.length
      · have hlt2 : k < l2.length := by rw [← Hll.out]; exact hlt
        have hlz : (k : Int) < (l1.length : Int) := by omega
        have hlz2 : (k : Int) < (l2.length : Int) := by omega
        obtain ⟨b1, o1, rfl, -, hx1⟩ := H1.out (fun e => by rw [e] at hlt; simp at hlt)
        obtain ⟨b2, o2, rfl, -, hx2⟩ := H2.out (fun e => by rw [e] at hlt2; simp at hlt2)
        obtain ⟨q1, m1, c10, c11, c12, c13, R1⟩ := hx1 k hlt
        obtain ⟨q2, m2, c20, c21, c22, c23, R2⟩ := hx2 k hlt2
        have HS := hid (drop_step hlt)
        have HS2 := hid (drop_step hlt2)
        have hB1 := block_lt_of_cell c10
        have hB2 := block_lt_of_cell c20
        rw [← HB.out.cell (p := ⟨b1, o1 + k * 4, none⟩) hB1] at c10
        rw [← HB.out.cell (p := ⟨b1, o1 + k * 4 + 1, none⟩) hB1] at c11
        rw [← HB.out.cell (p := ⟨b1, o1 + k * 4 + 2, none⟩) hB1] at c12
        rw [← HB.out.cell (p := ⟨b1, o1 + k * 4 + 3, none⟩) hB1] at c13
        rw [← HB.out.cell (p := ⟨b2, o2 + k * 4, none⟩) hB2] at c20
        rw [← HB.out.cell (p := ⟨b2, o2 + k * 4 + 1, none⟩) hB2] at c21
        rw [← HB.out.cell (p := ⟨b2, o2 + k * 4 + 2, none⟩) hB2] at c22
        rw [← HB.out.cell (p := ⟨b2, o2 + k * 4 + 3, none⟩) hB2] at c23
        have HR1 := hid (R1.below HB.out (Nat.le_refl _))
        have HR2 := hid (R2.below HB.out (Nat.le_refl _))
        generalize l1[k] = r1 at *
        generalize l2[k] = r2 at *
        have hsz := HB.out.size
        have hC1 : b1 < wr.heap.size := Nat.lt_of_lt_of_le hB1 hsz
        have hC2 : b2 < wr.heap.size := Nat.lt_of_lt_of_le hB2 hsz
        clear hx1 hx2 R1 R2 hB1 hB2 hsz
        have HA := hid (fun o o' => And.intro (HR1.out.below (below2 wr o o') (Nat.le_refl _)) (And.intro (HR2.out.below (below2 wr o o') (Nat.le_refl _)) (HB.out.trans ((below2 wr o o').mono HB.out.size))))
        go_wp2_with fail
        refine (IH.out _ _ _ _ _ (HA.out _ _).1 (HA.out _ _).2.1).mono ?_; rintro e w2 ⟨b, rfl, hh⟩
        have HB2 := hid ((HA.out _ _).2.2.trans (hh.out.2.mono (by have := HB.out.size; simp; omega)))
        have HQ := hid hh.out.1
        clear hh HA HR1 HR2
        cases b
        · go_wp2
          go_ret
          refine ⟨false, rfl, ⟨by simp, fun h => ?_⟩, HB2.out⟩
          have h3 := HD.out.2 h
          rw [HS.out, HS2.out] at h3
          exact HQ.out.2 (heads h3).1
        · go_wp2
          go_roundw
          case rel =>
            refine ⟨k + 1, by go_num, by omega, ?_, HB2.out⟩
            have h3 := HQ.out.1 trivial
            have h4 := HD.out
            rw [HS.out, HS2.out, h3] at h4
            exact ⟨fun h => h4.1 (by rw [h]), fun h => (heads (h4.2 h)).2⟩
          case measure => simp [intOf]; omega
      · have hD := HD.out
        rw [List.drop_eq_nil_of_le (by omega), List.drop_eq_nil_of_le (by have := Hll.out; omega)] at hD
        have HD1 := hid (hD.1 rfl)
        clear hD
        go_wp2
        go_ret
        exact ⟨true, rfl, ⟨fun _ => HD1.out, fun _ => rfl⟩, HB.out⟩
  · have hne : ((l1.length : Int) != (l2.length : Int)) = true := by simp; omega
    go_enter Tryd.func21, Tryd.ntmps21
    go_wp2
    go_ret
    exact ⟨false, rfl, ⟨by simp, fun h => absurd (congrArg List.length h) hll⟩, Below.refl _ _⟩
set_option maxHeartbeats 2000000 in
set_option maxRecDepth 100000 in
theorem same_of {d : Nat} (ih : SameAt d) : SameAt (d + 1) := by
  intro v1 v2 r1 r2 w h1 h2
  obtain ⟨p1, c1, rfl, f1, R1⟩ := h1
  obtain ⟨p2, c2, rfl, f2, R2⟩ := h2
  obtain ⟨k1, n1, t1, l1⟩ := r1
  obtain ⟨k2, n2, t2, l2⟩ := r2
  have HEq := hid (fun o o' => equal_of ih p1 p2 l1 l2 c1 c2 ((w.alloc o).alloc o') (R1.below (below2 w o o') (Nat.le_refl _)) (R2.below (below2 w o o') (Nat.le_refl _)) f1.l)
  clear R1 R2 f1 f2 ih
  simp only [Rep.kind, Rep.int, Rep.text, Rep.list]
  by_cases hk : k1 = k2
  · by_cases hn : n1 = n2
    · by_cases ht : t1 = t2
      · subst hk hn ht
        go_enter Tryd.func14, Tryd.ntmps14
        go_wp2_with fail
        refine (HEq.out _ _).mono ?_; rintro e w2 ⟨b, rfl, hh⟩
        have HH := hid hh.out
        clear hh HEq
        go_wp2
        go_ret
        refine ⟨b, rfl, ⟨fun h => by rw [HH.out.1.1 h], fun h => HH.out.1.2 (by injection h)⟩, (below2 w _ _).trans (HH.out.2.mono (by simp; omega))⟩
      · have hkb : (k1 == k2) = true := by simp [hk]
        have hnb : (n1 == n2) = true := by simp [hn]
        go_enter Tryd.func14, Tryd.ntmps14
        go_wp2
        go_ret
        exact ⟨false, rfl, ⟨by simp, fun h => absurd (by injection h) ht⟩, below2 w _ _⟩
    · have hkb : (k1 == k2) = true := by simp [hk]
      have hnb : (n1 == n2) = false := by simp [hn]
      go_enter Tryd.func14, Tryd.ntmps14
      go_wp2
      go_ret
      exact ⟨false, rfl, ⟨by simp, fun h => absurd (by injection h) hn⟩, below2 w _ _⟩
  · have hkb : (k1 == k2) = false := by simp [hk]
    go_enter Tryd.func14, Tryd.ntmps14
    go_wp2
    go_ret
    exact ⟨false, rfl, ⟨by simp, fun h => absurd (by injection h) hk⟩, below2 w _ _⟩
theorem same_at : ∀ d, SameAt d
  | 0 => fun _ _ _ _ _ h => h.elim
  | d + 1 => same_of (same_at d)
/-- Same -/
theorem same_any {d1 d2 : Nat} (v1 v2 : Value) (r1 r2 : Rep) (w : World) (h1 : Rp All w d1 v1 r1) (h2 : Rp All w d2 v2 r2) :
    Calls Tryd.prog 14 #[v1, v2] w fun e w' => ∃ b : Bool, e = .returned (.bool b) ∧ Hid ((b = true ↔ r1 = r2) ∧ Below w.heap.size w w') :=
  same_at (max d1 d2) v1 v2 r1 r2 w (h1.all (Nat.le_max_left _ _)) (h2.all (Nat.le_max_right _ _))

end Go.Proofs.YtngkbacnajgmcaaDoor
