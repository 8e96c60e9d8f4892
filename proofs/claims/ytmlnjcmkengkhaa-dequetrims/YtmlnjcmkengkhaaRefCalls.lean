/- The document's row: place, Pop, Range, Push, Put. -/
import Derived.Test.YtmlnjcmkengkhaaRefRow
import Derived.Test.YtmlnjcmkengkhaaModel
namespace Go.Proofs.Ytmlnjcmkengkhaa
open Go.RowKit

/-- the place that is meant, as a number; below 0: none -/
def plcV (n : Nat) (i : Int) : Int := if i < 0 then i + n else if (n : Int) ≤ i then -1 else i
theorem plcV_some {n : Nat} {i : Int} {k : Nat} (h : spot n i = some k) : plcV n i = k := by
  obtain ⟨hk, ⟨h1, h2⟩ | ⟨h1, h2⟩⟩ := spot_lt h
  · unfold plcV; rw [if_pos h1]; omega
  · unfold plcV; rw [if_neg (by omega), if_neg (by omega)]; omega
theorem plcV_none {n : Nat} {i : Int} (h : spot n i = none) : plcV n i < 0 := by
  rcases spot_no h with ⟨h1, h2⟩ | ⟨h1, h2⟩
  · unfold plcV; rw [if_pos h1]; exact h2
  · unfold plcV; rw [if_neg (by omega), if_pos h2]; decide
set_option maxHeartbeats 2000000 in
set_option maxRecDepth 100000 in
/-- ref place -/
theorem rplace_any (p : Option Addr) (n c : Nat) (i : Int) (w : World) (hn : n ≤ 1000000) (i0 : -9223372036854775808 ≤ i) (i1 : i ≤ 9223372036854775807) :
    Calls Try.prog 28 #[.slice p n c, .int .i64 i] w fun e w' => e = .returned (.int .i64 (plcV n i)) ∧ w' = w := by
  by_cases h1 : i < 0
  · rw [show plcV n i = i + n from if_pos h1]
    have h3 : ¬ (n : Int) ≤ i + n := by omega
    go_enter Try.func28, Try.ntmps28
    go_wp2
    go_ret
    exact ⟨rfl, rfl⟩
  · by_cases h2 : (n : Int) ≤ i
    · rw [show plcV n i = -1 by unfold plcV; rw [if_neg h1, if_pos h2]]
      go_enter Try.func28, Try.ntmps28
      go_wp2
      go_ret
      exact ⟨rfl, rfl⟩
    · rw [show plcV n i = i by unfold plcV; rw [if_neg h1, if_neg h2]]
      go_enter Try.func28, Try.ntmps28
      go_wp2
      go_ret
      exact ⟨rfl, rfl⟩
theorem tail_part (l : Row) : (l.drop 1).take (l.length - 1) = l.tail := by
  rw [List.drop_one, List.take_of_length_le (by simp)]
theorem last_part (l : Row) : (l.drop 0).take (l.length - 1 - 0) = l.dropLast := by
  rw [List.drop_zero, Nat.sub_zero, List.dropLast_eq_take]
set_option maxHeartbeats 2000000 in
set_option maxRecDepth 100000 in
/-- ref Pop -/
theorem rpop_any (P : Nat → Prop) (v : Value) (l : Row) (f : Bool) (w : World) (h : Tl P w v l) (hl : l.length ≤ 256) :
    Calls Try.prog 27 #[v, .bool f] w fun e w' => ∃ u, e = .returned (.tuple #[u, txt (popS l f), .bool (popB l)]) ∧ Hid (Tl P w' u (popL l f) ∧ Below w.heap.size w w') := by
  obtain ⟨p, c, rfl, hc⟩ := h.shape
  cases l with
  | nil =>
    rw [show popS [] f = [] by cases f <;> rfl, show popB [] = false from rfl, show popL [] f = [] by cases f <;> rfl]
    have H := hid h
    clear h
    go_enter Try.func27, Try.ntmps27
    go_wp2
    go_ret3
    exact ⟨_, rfl, H.out, Below.refl _ _⟩
  | cons x r =>
    have hpos : 0 < (x :: r).length := by simp
    obtain ⟨g, o, rfl, hg, -, hcell⟩ := h.cells 0 hpos
    have hlz : (0 : Int) < ((x :: r).length : Int) := by omega
    have hlz2 : ((x :: r).length : Int) ≤ 256 := by omega
    have hze : (((x :: r).length : Int) == 0) = false := beq_eq_false_iff_ne.2 (by omega)
    have hcz : ((x :: r).length : Int) ≤ (c : Int) := by omega
    cases f with
    | true =>
      have x0 : w.cell? ⟨g, o, none⟩ = some (txt x) := hcell 0 hpos
      have H := h.parts 1 (x :: r).length (by omega) (Nat.le_refl _)
      rw [tail_part] at H
      rw [show popS (x :: r) true = x from rfl, show popB (x :: r) = true from rfl, show popL (x :: r) true = (x :: r).tail from rfl]
      clear h hcell hpos
      generalize (x :: r).tail = T at *
      generalize (x :: r).length = n at *
      rcases H with ⟨rfl, H⟩ | ⟨hc1, H⟩
      · obtain rfl : n = 1 := by omega
        have H' := hid H
        clear H
        go_enter Try.func27, Try.ntmps27
        go_wp2_with fail
        go_quiet (fail)
        go_wp2_with fail
        go_ret3
        exact ⟨_, rfl, H'.out.below (below_drewN _ _), below_drewN _ _⟩
      · have H' := hid H
        clear H
        go_enter Try.func27, Try.ntmps27
        go_wp2_with fail
        go_quiet (fail)
        go_wp2_with fail
        go_ret3
        exact ⟨_, rfl, H'.out.below (below_drewN _ _), below_drewN _ _⟩
    | false =>
      have hlast : (x :: r).length - 1 < (x :: r).length := by simp
      have x0 : w.cell? ⟨g, o + ((x :: r).length - 1), none⟩ = some (txt ((x :: r)[(x :: r).length - 1])) := hcell _ hlast
      have H := hid (h.parts 0 ((x :: r).length - 1) (by omega) (by omega))
      rw [last_part] at H
      rw [show popS (x :: r) false = (x :: r)[(x :: r).length - 1] by simp [popS, List.getLastD_eq_getLast?, List.getLast?_eq_getElem?], show popB (x :: r) = true from rfl, show popL (x :: r) false = (x :: r).dropLast from rfl]
      generalize (x :: r)[(x :: r).length - 1] = y at *
      clear h hcell hpos hlast
      generalize (x :: r).dropLast = T at *
      generalize (x :: r).length = n1 at *
      obtain ⟨n, hn⟩ : ∃ n, n = n1 - 1 := ⟨_, rfl⟩
      simp only [Nat.sub_zero, Nat.add_zero, ← hn] at H x0
      have hnz : (n1 : Int) - 1 = (n : Int) := by omega
      have hnl : (n : Int) < (n1 : Int) := by omega
      clear hn
      go_enter Try.func27, Try.ntmps27
      go_wp2_with fail
      go_quiet (fail)
      go_wp2_with fail
      go_ret3
      refine ⟨_, rfl, ?_, below_drewN _ _⟩
      rcases H.out with ⟨h0, H'⟩ | ⟨_, H'⟩
      · omega
      · exact H'.below (below_drewN _ _)

end Go.Proofs.Ytmlnjcmkengkhaa
