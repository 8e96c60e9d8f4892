/- First. -/
import Derived.Maps.AppendAt
import Derived.Great.BuildSlice
import Derived.Test.YtbfllifgmlkndaaGreatDoorM07
namespace Go.Proofs.YtbfllifgmlkndaaGreatDoor
open Go.RowKit
open Slot

theorem infoRange (x y : Value) : (Tryz.prog.info? 116).map (·.size) = some (#[x, y] : Array Value).size := by
  show _ = some 2; kernel_rfl
/-- a range that is told lies in its own block -/
theorem ret_range {fn : Func} {p : Tmp} (h : fn.results = #[.cell p 116]) {tmps : Array Value} {w : World} {b : Nat} {x y : Value} (hp : tmps.getD p undef = .pointer (some ⟨b, 0, none⟩)) (hB : w.heap[b]? = some (.cells #[x, y] 116 (0, 0))) :
    (results fn tmps).run Tryz.prog w = .ok (.agg #[x, y]) w :=
  results_cell_row h tmps w b 116 #[x, y] (0, 0) _ hp hB Tryz.underlying116 rfl (infoRange x y)

set_option maxHeartbeats 1000000 in
set_option maxRecDepth 100000 in
/-- firstRange: the lowest range from a place on -/
theorem first_any (b m N : Nat) (S : Nat → Bool) (w : World) (hB : Box w b S) (hm : m ≤ N) (hN : N < 16384) (hS : S N = true) :
    Calls Tryz.prog 102 #[.pointer (some ⟨b, 0, none⟩), .int .i64 m] w fun e w' => (∃ f t : Nat, e = .returned (.agg #[.int .i64 f, .int .i64 t]) ∧ m ≤ f ∧ f ≤ t ∧ t < 16384 ∧ (∀ n, m ≤ n → n < f → S n = false) ∧ (∀ n, f ≤ n → n ≤ t → S n = true) ∧ (t + 1 < 16384 → S (t + 1) = false)) ∧ Below w.heap.size w w' := by
  have HI : Hid (∀ W, Below w.heap.size w W → ∀ n : Nat, n < 16384 → Calls Tryz.prog 109 #[.pointer (some ⟨b, 0, none⟩), .int .i64 n] W fun e w' => e = .returned (.bool (S n)) ∧ w' = W) := fun W hW n hn => in_any b n S W hn (hB.below hW hB.lt)
  have HW := hid (below_alloc w (.cells #[.int .i64 0, .int .i64 0] 116))
  clear hB
  go_enter Tryz.func102, Tryz.ntmps102
  go_wp2
  go_loop [1] (fun i => ∃ k : Nat, m ≤ k ∧ k ≤ N ∧ i = .int .i64 k ∧ Hid (∀ j, m ≤ j → j < k → S j = false)) (fun i => N - (intOf i).toNat)
  case atStart => exact ⟨m, Nat.le_refl _, hm, rfl, fun j h1 h2 => by omega⟩
  case round =>
    obtain ⟨k, hk1, hk2, rfl, HK⟩ := hrel
    cases hSk : S k
    · have hne : k ≠ N := fun e => by rw [e, hS] at hSk; cases hSk
      go_wp2_with fail
      refine (HI.out _ HW.out k (by omega)).mono ?_; rintro e w' ⟨rfl, rfl⟩
      rw [hSk]
      go_wp2
      go_round
      case rel => exact ⟨k + 1, by omega, by omega, by go_num, fun j h1 h2 => by rcases Nat.lt_or_ge j k with h | h; exact HK.out j h1 h; rw [show j = k by omega]; exact hSk⟩
      case measure => simp [intOf]; omega
    · go_wp2_with fail
      refine (HI.out _ HW.out k (by omega)).mono ?_; rintro e w' ⟨rfl, rfl⟩
      rw [hSk]
      go_wp2
      go_loop [5] (fun i => ∃ t : Nat, k ≤ t ∧ t < 16384 ∧ i = .int .i64 t ∧ Hid (∀ j, k ≤ j → j ≤ t → S j = true)) (fun i => 16384 - (intOf i).toNat)
      case atStart => exact ⟨k, Nat.le_refl _, by omega, rfl, fun j h1 h2 => by rw [show j = k by omega]; exact hSk⟩
      case round =>
        obtain ⟨t, ht1, ht2, rfl, HT⟩ := hrel
        by_cases hlt : t + 1 < 16384
        · have HI1 : Hid (∀ W, Below w.heap.size w W → Calls Tryz.prog 109 #[.pointer (some ⟨b, 0, none⟩), .int .i64 ((t : Int) + 1)] W fun e w' => e = .returned (.bool (S (t + 1))) ∧ w' = W) := fun W hW => HI.out W hW (t + 1) hlt
          cases hSt : S (t + 1)
          · go_wp2_with fail
            refine (HI1.out _ HW.out).mono ?_; rintro e w' ⟨rfl, rfl⟩
            rw [hSt]
            go_wp2
            exact bodyPost_ret (v := .agg #[.int .i64 k, .int .i64 t]) (ret_range rfl rfl (heap_alloc_new w _)) rfl ⟨⟨k, t, rfl, hk1, ht1, ht2, HK.out, HT.out, fun _ => hSt⟩, below_alloc _ _⟩
          · go_wp2_with fail
            refine (HI1.out _ HW.out).mono ?_; rintro e w' ⟨rfl, rfl⟩
            rw [hSt]
            go_wp2
            go_round
            case rel => exact ⟨t + 1, by omega, by omega, by go_num, fun j h1 h2 => by rcases Nat.lt_or_ge j (t + 1) with h | h; exact HT.out j h1 (by omega); rw [show j = t + 1 by omega]; exact hSt⟩
            case measure => simp [intOf]; omega
        · go_wp2
          exact bodyPost_ret (v := .agg #[.int .i64 k, .int .i64 t]) (ret_range rfl rfl (heap_alloc_new w _)) rfl ⟨⟨k, t, rfl, hk1, ht1, ht2, HK.out, HT.out, fun h => absurd h hlt⟩, below_alloc _ _⟩


end Go.Proofs.YtbfllifgmlkndaaGreatDoor
