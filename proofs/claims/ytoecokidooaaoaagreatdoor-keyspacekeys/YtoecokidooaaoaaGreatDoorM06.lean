/- RefRight. -/
import Derived.BigQuiet
import Derived.WalkLawsBesides
import Derived.Test.YtoecokidooaaoaaGreatDoorM04
namespace Go.Proofs.YtoecokidooaaoaaGreatDoor
open Go.RowKit

set_option maxHeartbeats 2000000 in
set_option maxRecDepth 100000 in
/-- ref Right -/
theorem rright_any (p : Option Addr) (c : Nat) (l : Row) (w : World) (h : Rd w p c l) (hl : l.length ≤ 1000000) :
    Calls Tryz.prog 81 #[.slice p l.length c] w fun e w' => ∃ V : Bool, e = .returned (.bool V) ∧ Hid ((V = true ↔ Ris l) ∧ Below w.heap.size w w') := by
  have H := hid h.strs
  have hlz : (l.length : Int) ≤ 1000000 := by omega
  clear h
  go_enter Tryz.func81, Tryz.ntmps81
  go_wp2_with fail
  go_loopw [3] (fun v3 W => ∃ k : Nat, v3 = .int .i64 k ∧ 1 ≤ k ∧ k ≤ l.length + 1 ∧ Hid (Ris (l.take k)) ∧ Hid (Below w.heap.size w W)) (fun v3 _ => l.length - (intOf v3).toNat)
  case atStart => exact ⟨1, rfl, by decide, by omega, by
    cases l with
    | nil => exact Ris.nil
    | cons x r => exact List.pairwise_singleton _ _, Below.refl _ _⟩
  case round =>
    obtain ⟨k, rfl, hk1, hk, HK, HW⟩ := hrel
    by_cases hlt : k < l.length
    · obtain ⟨i, rfl⟩ : ∃ i, k = i + 1 := ⟨k - 1, by omega⟩
      have hkz : ((i + 1 : Nat) : Int) < (l.length : Int) := by omega
      obtain ⟨b, o, rfl, hc⟩ := H.out (fun e => by rw [e] at hlt; simp at hlt)
      have hbl : b < w.heap.size := block_lt_of_cell (hc (i + 1) hlt)
      have x0 := cell_turn (hc i (by omega)) (HW.out.block b hbl)
      have x1 := cell_turn (hc (i + 1) hlt) (HW.out.block b hbl)
      have hsub : ((i + 1 : Nat) : Int) - 1 = (i : Int) := by omega
      by_cases e : l[i] < l[i + 1]
      · have HK2 := hid (ris_take hlt HK.out e)
        have hbl2 : Op.bytesLess l[i] l[i + 1] = true := by rw [bytesLess_eq]; exact decide_eq_true e
        generalize l[i] = t at *
        generalize l[i + 1] = u at *
        clear hc e
        go_wp2_with fail
        go_quiet (fail)
        go_wp2_with fail
        exact ⟨⟨i + 1 + 1, by go_num, by omega, by omega, HK2.out, by first | exact HW.out | exact HW.out.drew | exact below_redrawn HW.out _⟩, by simp [intOf]; omega⟩
      · have HN : Hid (¬ Ris l) := fun h => e (ris_at h (Nat.lt_succ_self i) hlt)
        have hbl2 : Op.bytesLess l[i] l[i + 1] = false := by rw [bytesLess_eq]; exact decide_eq_false e
        generalize l[i] = t at *
        generalize l[i + 1] = u at *
        clear hc e
        go_wp2_with fail
        go_quiet (fail)
        go_wp2_with fail
        go_ret
        exact ⟨false, rfl, ⟨fun h => by simp at h, fun h => absurd h HN.out⟩, by first | exact HW.out | exact HW.out.drew | exact below_redrawn HW.out _⟩
    · have HF : Hid (Ris l) := by have := HK.out; rw [List.take_of_length_le (by omega)] at this; exact this
      go_wp2_with fail
      go_ret
      exact ⟨true, rfl, ⟨fun _ => HF.out, fun _ => rfl⟩, HW.out⟩

end Go.Proofs.YtoecokidooaaoaaGreatDoor
