/- RefDec, RefAll, Gaps, RefRanges, RefPrint, CrcRef, OpenBits, RefSets. -/
import Derived.Test.YtbfllifgmlkndaaGreatDoorM14
import Derived.Test.YtbfllifgmlkndaaGreatDoorM15
import Derived.Test.YtbfllifgmlkndaaGreatDoorM10
import Derived.Deep.RegionLaw
import Derived.Lib.AppendStr
import Derived.Test.YtbfllifgmlkndaaGreatDoorM05
import Derived.ProofKit
import Derived.OpenShut
import Derived.RowKit
import Derived.Test.YtbfllifgmlkndaaGreatDoorM06
namespace Go.Proofs.YtbfllifgmlkndaaGreatDoor
open Go.RowKit
open Slot

/-- a text under way, in a row of the call's own -/
structure Txt (B : Nat) (w1 : World) (W : World) (v : Value) (T : List UInt8) : Prop where
  own : W.ownsRow B 5 1 v T.length (Lib.byteCells T)
  bel : Below B w1 W
  size : B ≤ W.heap.size
theorem Txt.below {B : Nat} {w1 W W' : World} {v : Value} {T : List UInt8} (h : Txt B w1 W v T) (hb : Below W.heap.size W W') : Txt B w1 W' v T :=
  ⟨owns_below h.own hb, h.bel.trans (hb.mono h.size), Nat.le_trans h.size hb.size⟩
theorem Txt.drewN {B : Nat} {w1 W : World} {v : Value} {T : List UInt8} (h : Txt B w1 W v T) (n : Nat) : Txt B w1 (W.drewN n) v T := h.below (Below.drewN (Below.refl _ _) n)
theorem Txt.push {B : Nat} {w1 W : World} {v : Value} {T : List UInt8} (h : Txt B w1 W v T) (c : UInt8) (z : Int) (hz : (c.toNat : Int) = z) (hT : T.length ≤ 300000) :
    ∃ v' W', (Builtin.append_ #[126, 126] 126 #[v, .slice (some ⟨W.heap.size, 0, none⟩) 1 1]).run Tryz.prog (W.alloc (.cells #[.int .u8 z] 5)) = .ok v' W' ∧ Txt B w1 W' v' (T ++ [c]) := by
  subst hz
  obtain ⟨i0, hi, hz0, hz1, hz2⟩ := info_parts info5
  have hs := h.size
  have hown' := owns_below h.own (below_alloc W (.cells #[.int .u8 (c.toNat : Int)] 5))
  obtain ⟨v', w', hrun, ho, hgr, _⟩ := run_append_own (P := Tryz.prog) (W.alloc (.cells #[.int .u8 (c.toNat : Int)] 5)) B 126 126 5 i0 (.int .u8 0) 1 1 Tryz.underlying126 hi hz0 hz1 hz2 rfl (by decide) _ _ _ hown' ⟨W.heap.size, 0, none⟩ 1 1 [.int .u8 (c.toNat : Int)] rfl
    (fun j u hj => by
      rw [Go.WideShapes.add_plain, cell_of_row _ _ _ _ _ _ (heap_alloc_new W _)]
      simpa using hj)
    (fun u hu => by rw [List.mem_singleton.1 hu]; rfl) (by unfold maxLen; omega) (by omega) (by simp; omega)
  refine ⟨v', w', hrun, ?_, ?_, ?_⟩
  · rw [Lib.byteCells_append, List.length_append]
    exact ho
  · exact (h.bel.alloc hs _).grown hgr (by simp; omega) (fun k hk => (World.ownsRow.lt h.own k hk).1)
  · have := hgr.size; simp at this; omega
end Go.Proofs.YtbfllifgmlkndaaGreatDoor

namespace Go.Proofs.YtbfllifgmlkndaaGreatDoor
open Go.RowKit
open Slot

theorem pow_next (i : Nat) : ((2 ^ (i + 1) : Nat) : Int) = ((2 ^ i : Nat) : Int) * 2 := by rw [Nat.pow_succ]; omega
theorem pow_low (i : Nat) (h : i < 64) : 2 ^ i ≤ 9223372036854775808 := by
  have : 2 ^ i ≤ 2 ^ 63 := Nat.pow_le_pow_right (by decide) (by omega)
  exact this
set_option maxHeartbeats 1000000 in
theorem power_any (k : Nat) (w : World) (hk : k < 64) :
    Calls Tryz.prog 92 #[.int .i64 k] w fun e w' => e = .returned (.int .u64 ((2 ^ k : Nat) : Int)) ∧ w' = w := by
  go_enter Tryz.func92, Tryz.ntmps92
  go_wp2
  go_loop [3, 4] (fun p i => ∃ m : Nat, m ≤ k ∧ i = .int .i64 m ∧ p = .int .u64 ((2 ^ m : Nat) : Int)) (fun _ i => k - (intOf i).toNat)
  case atStart => exact ⟨0, Nat.zero_le _, rfl, rfl⟩
  case round =>
    obtain ⟨m, hm, rfl, rfl⟩ := hrel
    have hp := pow_low m (by omega)
    have HN := hid (pow_next m)
    by_cases hlt : m < k
    · have hp' : 2 ^ m ≤ 4611686018427387904 := by
        have : 2 ^ m ≤ 2 ^ 62 := Nat.pow_le_pow_right (by decide) (by omega)
        exact this
      have h0 : (0 : Int) ≤ ((2 ^ m : Nat) : Int) := Int.natCast_nonneg _
      have h1 : ((2 ^ m : Nat) : Int) ≤ 4611686018427387904 := Int.ofNat_le.2 hp'
      generalize ((2 ^ m : Nat) : Int) = P at HN h0 h1 ⊢
      clear hp hp'
      go_wp2
      go_round
      case rel => exact ⟨m + 1, by omega, by go_num, by rw [HN.out]⟩
      case measure => simp [intOf]; omega
    · have e : m = k := by omega
      subst e
      clear hp
      obtain ⟨P, hP⟩ : ∃ P : Int, P = ((2 ^ m : Nat) : Int) := ⟨_, rfl⟩
      rw [← hP]
      have HP := hid hP
      clear hP HN
      go_wp2
      go_ret
      exact ⟨ret_int HP.out, rfl⟩
theorem bit_div (x k : Nat) : (((x : Int) / ((2 ^ k : Nat) : Int)) % 2 == 1) = x.testBit k := by
  rw [Nat.testBit_eq_decide_div_mod_eq]
  have e : ((x : Int) / ((2 ^ k : Nat) : Int)) % 2 = ((x / 2 ^ k % 2 : Nat) : Int) := by simp
  rw [e]
  by_cases h : x / 2 ^ k % 2 = 1
  · rw [h]; simp
  · rw [decide_eq_false h, beq_eq_false_iff_ne]; omega
set_option maxHeartbeats 1000000 in
set_option maxRecDepth 100000 in
theorem rHas_any (S : Nat → Bool) (n : Int) (w : World) :
    Calls Tryz.prog 91 #[.agg (cellsOf S), .int .i64 n] w fun e w' => e = .returned (.bool (decide (0 ≤ n ∧ n < 16384) && S n.toNat)) ∧ Below w.heap.size w w' := by
  by_cases h : 0 ≤ n ∧ n < 16384
  · obtain ⟨k, rfl⟩ := Int.eq_ofNat_of_zero_le h.1
    have hk : k < 16384 := by omega
    have hc := (box_new w S).cell (k / 64) (by omega)
    have HP : Hid (∀ W, Calls Tryz.prog 92 #[.int .i64 ((k : Int) % 64)] W fun e w' => e = .returned (.int .u64 ((2 ^ (k % 64) : Nat) : Int)) ∧ w' = W) := fun W => by
      have := power_any (k % 64) W (by omega)
      rwa [show ((k % 64 : Nat) : Int) = (k : Int) % 64 by omega] at this
    have HE := hid (bit_div (word S (k / 64)) (k % 64))
    rw [word_bit] at HE
    have h0 : (0 : Int) ≤ (word S (k / 64) : Int) := by omega
    have h1 : (word S (k / 64) : Int) < 18446744073709551616 := by have := word_lt S (k / 64); omega
    have hpp : 0 < 2 ^ (k % 64) := Nat.pow_pos (by decide)
    have p0 : (0 : Int) < ((2 ^ (k % 64) : Nat) : Int) := Int.ofNat_lt.2 hpp
    have p1 : ((2 ^ (k % 64) : Nat) : Int) < 18446744073709551616 := Int.ofNat_lt.2 (Nat.lt_of_le_of_lt (pow_low (k % 64) (by omega)) (by decide))
    rw [decide_eq_true h, Bool.true_and, Int.toNat_natCast]
    generalize (word S (k / 64) : Int) = x at hc HE h0 h1
    generalize ((2 ^ (k % 64) : Nat) : Int) = P at HP HE p0 p1
    clear h hpp
    go_enter Tryz.func91, Tryz.ntmps91
    go_wp2
    go_quiet ((go_at_call 92; exact Calls.quiet_of_same (HP.out _)))
    go_wp2
    go_ret
    exact ⟨ret_bool (by rw [Int.tmod_eq_emod_of_nonneg (Int.ediv_nonneg h0 (Int.le_of_lt p0))]; exact HE.out), Below.drewN (below_alloc _ _) _⟩
  · rw [decide_eq_false h, Bool.false_and]
    by_cases hn : n < 0
    · go_enter Tryz.func91, Tryz.ntmps91
      go_wp2
      go_ret
      exact ⟨rfl, below_alloc _ _⟩
    · have hn2 : 16384 ≤ n := by omega
      clear h
      go_enter Tryz.func91, Tryz.ntmps91
      go_wp2
      go_ret
      exact ⟨rfl, below_alloc _ _⟩

theorem cellsOf_congr {S T : Nat → Bool} (e : ∀ n, n < top → S n = T n) : cellsOf S = cellsOf T := by
  unfold cellsOf
  congr 1
  funext i
  rw [word_congr (i := i.val) fun k _ => e _ (by have := i.isLt; unfold top; omega)]
theorem put_one {S : Nat → Bool} {k : Nat} {on : Bool} : put S k k on = fun n => if n = k then on else S n := by
  funext n
  unfold put
  by_cases h : n = k
  · subst h; simp
  · rw [if_neg (by omega), if_neg h]
theorem put_same {S : Nat → Bool} {k : Nat} {on : Bool} (h : S k = on) : put S k k on = S := by
  rw [put_one]
  funext n
  by_cases e : n = k
  · subst e; simp [h]
  · simp [e]
theorem word_add {S : Nat → Bool} {k : Nat} (h : S k = false) : word (put S k k true) (k / 64) = word S (k / 64) + 2 ^ (k % 64) := by
  rw [put_one]
  unfold word
  rw [← num_set (n := 64) (k := k % 64) (Nat.mod_lt _ (by decide)) (by rw [show 64 * (k / 64) + k % 64 = k by omega]; exact h)]
  refine num_congr fun j hj => ?_
  by_cases e : j = k % 64
  · subst e; simp [show 64 * (k / 64) + k % 64 = k by omega]
  · simp [e, show ¬ 64 * (k / 64) + j = k by omega]
theorem word_sub {S : Nat → Bool} {k : Nat} (h : S k = true) : word (put S k k false) (k / 64) + 2 ^ (k % 64) = word S (k / 64) := by
  rw [put_one]
  have hk : 64 * (k / 64) + k % 64 = k := by omega
  have := num_clear (f := fun j => S (64 * (k / 64) + j)) (n := 64) (k := k % 64) (Nat.mod_lt _ (by decide)) (by simp only [hk]; exact h)
  unfold word
  rw [← this]
  refine congrArg (· + 2 ^ (k % 64)) (num_congr fun j hj => ?_)
  by_cases e : j = k % 64
  · subst e; simp [hk]
  · simp [e, show ¬ 64 * (k / 64) + j = k by omega]
theorem word_rest {S : Nat → Bool} {k j : Nat} {on : Bool} (h : j ≠ k / 64) : word (put S k k on) j = word S j := by
  rcases Nat.lt_or_gt_of_ne h with h | h
  · exact put_out (.inl h)
  · exact put_out (.inr h)
theorem box_put {W : World} {b k : Nat} {S : Nat → Bool} {on : Bool} (h : Box W b S) (v : Int) (hv : v = (word (put S k k on) (k / 64) : Int)) : Box (W.setCell ⟨b, k / 64, none⟩ (.int .u64 v)) b (put S k k on) := by
  rw [hv]
  refine h.set (k / 64) fun j _ => ?_
  by_cases e : j = k / 64
  · subst e; simp
  · rw [if_neg e]; exact word_rest e

end Go.Proofs.YtbfllifgmlkndaaGreatDoor
