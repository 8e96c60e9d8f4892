/- RefSets, RefWith, RefMake. -/
import Derived.Test.YtbfllifgmlkndaaGreatDoorM07
import Derived.Test.YtbfllifgmlkndaaGreatDoorM10
namespace Go.Proofs.YtbfllifgmlkndaaGreatDoor
open Go.RowKit
open Slot

theorem pow_next (i : Nat) : ((2 ^ (i + 1) : Nat) : Int) = ((2 ^ i : Nat) : Int) * 2 := by rw [Nat.pow_succ]; omega
theorem pow_low (i : Nat) (h : i < 64) : 2 ^ i ≤ 9223372036854775808 := by
  have : 2 ^ i ≤ 2 ^ 63 := Nat.pow_le_pow_right (by decide) (by omega)
  exact this
set_option maxHeartbeats 1000000 in
theorem power_any (k : Nat) (w : World) (hk : k < 64) :
    Calls Tryz.prog 92 #[.int .i64 k] w fun e w' => e = .returned (.int .u64 ((2 ^ k : Nat) : Int)) ∧ w' = w := by
  go_enter Tryz.func92, Tryz.ntmps92
  go_wp2
  go_loop [3, 4] (fun p i => ∃ m : Nat, m ≤ k ∧ i = .int .i64 m ∧ p = .int .u64 ((2 ^ m : Nat) : Int)) (fun _ i => k - (intOf i).toNat)
  case atStart => exact ⟨0, Nat.zero_le _, rfl, rfl⟩
  case round =>
    obtain ⟨m, hm, rfl, rfl⟩ := hrel
    have hp := pow_low m (by omega)
    have HN := hid (pow_next m)
    by_cases hlt : m < k
    · have hp' : 2 ^ m ≤ 4611686018427387904 := by
        have : 2 ^ m ≤ 2 ^ 62 := Nat.pow_le_pow_right (by decide) (by omega)
        exact this
      have h0 : (0 : Int) ≤ ((2 ^ m : Nat) : Int) := Int.natCast_nonneg _
      have h1 : ((2 ^ m : Nat) : Int) ≤ 4611686018427387904 := Int.ofNat_le.2 hp'
      generalize ((2 ^ m : Nat) : Int) = P at HN h0 h1 ⊢
      clear hp hp'
      go_wp2
      go_round
      case rel => exact ⟨m + 1, by omega, by go_num, by rw [HN.out]⟩
      case measure => simp [intOf]; omega
    · have e : m = k := by omega
      subst e
      clear hp
      obtain ⟨P, hP⟩ : ∃ P : Int, P = ((2 ^ m : Nat) : Int) := ⟨_, rfl⟩
      rw [← hP]
      have HP := hid hP
      clear hP HN
      go_wp2
      go_ret
      exact ⟨ret_int HP.out, rfl⟩
theorem bit_div (x k : Nat) : (((x : Int) / ((2 ^ k : Nat) : Int)) % 2 == 1) = x.testBit k := by
  rw [Nat.testBit_eq_decide_div_mod_eq]
  have e : ((x : Int) / ((2 ^ k : Nat) : Int)) % 2 = ((x / 2 ^ k % 2 : Nat) : Int) := by simp
  rw [e]
  by_cases h : x / 2 ^ k % 2 = 1
  · rw [h]; simp
  · rw [decide_eq_false h, beq_eq_false_iff_ne]; omega
set_option maxHeartbeats 1000000 in
set_option maxRecDepth 100000 in
theorem rHas_any (S : Nat → Bool) (n : Int) (w : World) :
    Calls Tryz.prog 91 #[.agg (cellsOf S), .int .i64 n] w fun e w' => e = .returned (.bool (decide (0 ≤ n ∧ n < 16384) && S n.toNat)) ∧ Below w.heap.size w w' := by
  by_cases h : 0 ≤ n ∧ n < 16384
  · obtain ⟨k, rfl⟩ := Int.eq_ofNat_of_zero_le h.1
    have hk : k < 16384 := by omega
    have hc := (box_new w S).cell (k / 64) (by omega)
    have HP : Hid (∀ W, Calls Tryz.prog 92 #[.int .i64 ((k : Int) % 64)] W fun e w' => e = .returned (.int .u64 ((2 ^ (k % 64) : Nat) : Int)) ∧ w' = W) := fun W => by
      have := power_any (k % 64) W (by omega)
      rwa [show ((k % 64 : Nat) : Int) = (k : Int) % 64 by omega] at this
    have HE := hid (bit_div (word S (k / 64)) (k % 64))
    rw [word_bit] at HE
    have h0 : (0 : Int) ≤ (word S (k / 64) : Int) := by omega
    have h1 : (word S (k / 64) : Int) < 18446744073709551616 := by have := word_lt S (k / 64); omega
    have hpp : 0 < 2 ^ (k % 64) := Nat.pow_pos (by decide)
    have p0 : (0 : Int) < ((2 ^ (k % 64) : Nat) : Int) := Int.ofNat_lt.2 hpp
    have p1 : ((2 ^ (k % 64) : Nat) : Int) < 18446744073709551616 := Int.ofNat_lt.2 (Nat.lt_of_le_of_lt (pow_low (k % 64) (by omega)) (by decide))
    rw [decide_eq_true h, Bool.true_and, Int.toNat_natCast]
    generalize (word S (k / 64) : Int) = x at hc HE h0 h1
    generalize ((2 ^ (k % 64) : Nat) : Int) = P at HP HE p0 p1
    clear h hpp
    go_enter Tryz.func91, Tryz.ntmps91
    go_wp2
    go_quiet ((go_at_call 92; exact Calls.quiet_of_same (HP.out _)))
    go_wp2
    go_ret
    exact ⟨ret_bool (by rw [Int.tmod_eq_emod_of_nonneg (Int.ediv_nonneg h0 (Int.le_of_lt p0))]; exact HE.out), Below.drewN (below_alloc _ _) _⟩
  · rw [decide_eq_false h, Bool.false_and]
    by_cases hn : n < 0
    · go_enter Tryz.func91, Tryz.ntmps91
      go_wp2
      go_ret
      exact ⟨rfl, below_alloc _ _⟩
    · have hn2 : 16384 ≤ n := by omega
      clear h
      go_enter Tryz.func91, Tryz.ntmps91
      go_wp2
      go_ret
      exact ⟨rfl, below_alloc _ _⟩

theorem cellsOf_congr {S T : Nat → Bool} (e : ∀ n, n < top → S n = T n) : cellsOf S = cellsOf T := by
  unfold cellsOf
  congr 1
  funext i
  rw [word_congr (i := i.val) fun k _ => e _ (by have := i.isLt; unfold top; omega)]
theorem put_one {S : Nat → Bool} {k : Nat} {on : Bool} : put S k k on = fun n => if n = k then on else S n := by
  funext n
  unfold put
  by_cases h : n = k
  · subst h; simp
  · rw [if_neg (by omega), if_neg h]
theorem put_same {S : Nat → Bool} {k : Nat} {on : Bool} (h : S k = on) : put S k k on = S := by
  rw [put_one]
  funext n
  by_cases e : n = k
  · subst e; simp [h]
  · simp [e]
theorem word_add {S : Nat → Bool} {k : Nat} (h : S k = false) : word (put S k k true) (k / 64) = word S (k / 64) + 2 ^ (k % 64) := by
  rw [put_one]
  unfold word
  rw [← num_set (n := 64) (k := k % 64) (Nat.mod_lt _ (by decide)) (by rw [show 64 * (k / 64) + k % 64 = k by omega]; exact h)]
  refine num_congr fun j hj => ?_
  by_cases e : j = k % 64
  · subst e; simp [show 64 * (k / 64) + k % 64 = k by omega]
  · simp [e, show ¬ 64 * (k / 64) + j = k by omega]
theorem word_sub {S : Nat → Bool} {k : Nat} (h : S k = true) : word (put S k k false) (k / 64) + 2 ^ (k % 64) = word S (k / 64) := by
  rw [put_one]
  have hk : 64 * (k / 64) + k % 64 = k := by omega
  have := num_clear (f := fun j => S (64 * (k / 64) + j)) (n := 64) (k := k % 64) (Nat.mod_lt _ (by decide)) (by simp only [hk]; exact h)
  unfold word
  rw [← this]
  refine congrArg (· + 2 ^ (k % 64)) (num_congr fun j hj => ?_)
  by_cases e : j = k % 64
  · subst e; simp [hk]
  · simp [e, show ¬ 64 * (k / 64) + j = k by omega]
theorem word_rest {S : Nat → Bool} {k j : Nat} {on : Bool} (h : j ≠ k / 64) : word (put S k k on) j = word S j := by
  rcases Nat.lt_or_gt_of_ne h with h | h
  · exact put_out (.inl h)
  · exact put_out (.inr h)
theorem box_put {W : World} {b k : Nat} {S : Nat → Bool} {on : Bool} (h : Box W b S) (v : Int) (hv : v = (word (put S k k on) (k / 64) : Int)) : Box (W.setCell ⟨b, k / 64, none⟩ (.int .u64 v)) b (put S k k on) := by
  rw [hv]
  refine h.set (k / 64) fun j _ => ?_
  by_cases e : j = k / 64
  · subst e; simp
  · rw [if_neg e]; exact word_rest e

end Go.Proofs.YtbfllifgmlkndaaGreatDoor

namespace Go.Proofs.YtbfllifgmlkndaaGreatDoor
open Go.RowKit
open Slot

set_option maxHeartbeats 2000000 in
set_option maxRecDepth 100000 in
/-- ref With -/
theorem rWith_any (S : Nat → Bool) (n : Int) (on : Bool) (w : World) :
    Calls Tryz.prog 74 #[.agg (cellsOf S), .int .i64 n, .bool on] w fun e w' => e = .returned (.agg (cellsOf (if 0 ≤ n ∧ n < 16384 then put S n.toNat n.toNat on else S))) ∧ Below w.heap.size w w' := by
  have hz := zeroBits
  have HB0 : Hid (Box ((w.alloc (.cells (cellsOf S) 24)).alloc (.cells (cellsOf (fun _ => false)) 24)) w.heap.size S) := heap_alloc2_old w _ _
  have HZ0 : Hid (Box ((w.alloc (.cells (cellsOf S) 24)).alloc (.cells (cellsOf (fun _ => false)) 24)) (w.heap.size + 1) (fun _ => false)) := heap_alloc2_new w _ _
  have HW0 : Hid (Below w.heap.size w ((w.alloc (.cells (cellsOf S) 24)).alloc (.cells (cellsOf (fun _ => false)) 24))) := (below_alloc w _).alloc (by simp) _
  have HH := hid (rHas_any S n)
  by_cases h : 0 ≤ n ∧ n < 16384
  · obtain ⟨k, rfl⟩ := Int.eq_ofNat_of_zero_le h.1
    have hk : k < 16384 := by omega
    rw [decide_eq_true h, Bool.true_and, Int.toNat_natCast] at HH
    rw [if_pos h, Int.toNat_natCast]
    clear h
    have d1 : decide ((k : Int) < 0) = false := decide_eq_false (by omega)
    have d2 : decide (16384 ≤ (k : Int)) = false := decide_eq_false (by omega)
    by_cases hs : S k = on
    · rw [put_same hs]
      rw [hs] at HH
      go_enter Tryz.func74, Tryz.ntmps74
      go_wp2_with (refine wpList_load_want rfl 24 _ rfl w.heap.size rfl 24 _ (0, 0) _ HB0.out Tryz.underlying24 rfl (infoBits _) (Hid.out ?_))
      refine hid ?_
      go_wp2_with fail
      refine (HH.out _).mono ?_; rintro e w1 ⟨rfl, hb1⟩
      have HB1 := hid (HB0.out.below hb1 HB0.out.lt)
      have HZ1 := hid (HZ0.out.below hb1 HZ0.out.lt)
      have HW1 := hid (HW0.out.trans (hb1.mono HW0.out.size))
      clear hb1
      go_wp2_with (first | (refine wpList_load_row rfl 24 _ rfl w.heap.size rfl 24 _ (0, 0) _ HB1.out Tryz.underlying24 rfl (infoBits _) ?_) | (refine wpList_store_row rfl 24 _ _ rfl (w.heap.size + 1) _ rfl rfl 24 _ HZ1.out (infoBits _) (sizes _ _) (oneCells _) ?_))
      exact bodyPost_ret (v := .agg (cellsOf S)) (ret_box rfl rfl (box_size HZ1.out)) rfl ⟨rfl, below_setRow HW1.out (by omega) _⟩
    · have HP : Hid (∀ W, Calls Tryz.prog 92 #[.int .i64 ((k : Int) % 64)] W fun e w' => e = .returned (.int .u64 ((2 ^ (k % 64) : Nat) : Int)) ∧ w' = W) := fun W => by
        have := power_any (k % 64) W (by omega)
        rwa [show ((k % 64 : Nat) : Int) = (k : Int) % 64 by omega] at this
      have hw := word_lt S (k / 64)
      have hw' := word_lt (put S k k on) (k / 64)
      cases on
      · have hS : S k = true := by cases e : S k; exact absurd e hs; rfl
        rw [hS] at HH
        have hsub := word_sub hS
        have HV : Hid ((word S (k / 64) : Int) - ((2 ^ (k % 64) : Nat) : Int) = (word (put S k k false) (k / 64) : Int)) := by unfold Hid; omega
        have p0 : (0 : Int) ≤ (word S (k / 64) : Int) - ((2 ^ (k % 64) : Nat) : Int) := by omega
        have p1 : (word S (k / 64) : Int) - ((2 ^ (k % 64) : Nat) : Int) < 18446744073709551616 := by omega
        have p2 : (0 : Int) ≤ ((2 ^ (k % 64) : Nat) : Int) := Int.natCast_nonneg _
        have p3 : (word S (k / 64) : Int) < 18446744073709551616 := by omega
        obtain ⟨x, hx⟩ : ∃ x : Int, x = (word S (k / 64) : Int) := ⟨_, rfl⟩
        obtain ⟨P, hP⟩ : ∃ x : Int, x = ((2 ^ (k % 64) : Nat) : Int) := ⟨_, rfl⟩
        rw [← hx, ← hP] at HV p0 p1
        rw [← hP] at HP p2
        rw [← hx] at p3
        have HX := hid hx
        obtain ⟨i, hi⟩ : ∃ i, i = k / 64 := ⟨_, rfl⟩
        obtain ⟨r, hr⟩ : ∃ i, i = k % 64 := ⟨_, rfl⟩
        have hq : (k : Int) / 64 = (i : Int) := by omega
        have hqr : (k : Int) % 64 = (r : Int) := by omega
        have hqt : (k : Int).tmod 64 = (r : Int) := by rw [Int.tmod_eq_emod_of_nonneg (by omega)]; omega
        have hqd : (k : Int).tdiv 64 = (i : Int) := by rw [Int.tdiv_eq_ediv_of_nonneg (by omega)]; omega
        have hi1 : i < 256 := by omega
        have hwi : IntKind.i64.wrap (i : Int) = (i : Int) := by rw [IntKind.wrap_i64]; omega
        have hwr : IntKind.i64.wrap (r : Int) = (r : Int) := by rw [IntKind.wrap_i64]; omega
        have hwv : IntKind.u64.wrap (x - P) = x - P := by rw [IntKind.wrap_u64]; omega
        rw [hqr] at HP
        have HI := hid hi
        clear hx hP hsub hw hw' hS hs hi hr
        go_enter Tryz.func74, Tryz.ntmps74
        go_wp2_with (refine wpList_load_want rfl 24 _ rfl w.heap.size rfl 24 _ (0, 0) _ HB0.out Tryz.underlying24 rfl (infoBits _) (Hid.out ?_))
        refine hid ?_
        go_wp2_with fail
        refine (HH.out _).mono ?_; rintro e w1 ⟨rfl, hb1⟩
        have HB1 := hid (HB0.out.below hb1 HB0.out.lt)
        have HZ1 := hid (HZ0.out.below hb1 HZ0.out.lt)
        have HW1 := hid (HW0.out.trans (hb1.mono HW0.out.size))
        have hc : w1.cell? ⟨w.heap.size, i, none⟩ = some (.int .u64 x) := by rw [HB1.out.cell i hi1, HX.out, HI.out]
        have hf : w1.frozen? ⟨w.heap.size, i, none⟩ = false := frozen_of_row w1 w.heap.size i _ _ HB1.out
        clear hb1
        have HF : Hid (∀ W : World, W.heap = (w1.setCell ⟨w.heap.size, i, none⟩ (.int .u64 (x - P))).heap → W.os = w1.os → W.tape = w1.tape → W.output = w1.output → Box W w.heap.size (put S k k false) ∧ Box W (w.heap.size + 1) (fun _ => false) ∧ Below w.heap.size w W) := fun W h1 h2 h3 h4 => by
          have b1 : Box (w1.setCell ⟨w.heap.size, i, none⟩ (.int .u64 (x - P))) w.heap.size (put S k k false) := by rw [HI.out]; exact box_put HB1.out _ HV.out
          have b2 : Box (w1.setCell ⟨w.heap.size, i, none⟩ (.int .u64 (x - P))) (w.heap.size + 1) (fun _ => false) := Box.only (c := w.heap.size) HZ1.out ((Only.refl w.heap.size _).setCell _ _) (by omega)
          have b3 : Below w.heap.size w (w1.setCell ⟨w.heap.size, i, none⟩ (.int .u64 (x - P))) := HW1.out.setCell (Nat.le_refl _) _
          refine ⟨by unfold Box at b1 ⊢; rw [h1]; exact b1, by unfold Box at b2 ⊢; rw [h1]; exact b2, ?_⟩
          exact ⟨h2.trans b3.os, h3.trans b3.tape, h4.trans b3.output, by rw [h1]; exact b3.size, fun j hj => by rw [h1]; exact b3.block j hj⟩
        go_wp2_with fail
        go_region_with (go_at_call 92; refine (HP.out _).mono ?_; rintro e w' ⟨rfl, rfl⟩)
        all_goals
          go_wp2_with (first | (refine wpList_load_row rfl 24 _ rfl w.heap.size rfl 24 _ (0, 0) _ (HF.out _ rfl rfl rfl rfl).1 Tryz.underlying24 rfl (infoBits _) ?_) | (refine wpList_store_row rfl 24 _ _ rfl (w.heap.size + 1) _ rfl rfl 24 _ (HF.out _ rfl rfl rfl rfl).2.1 (infoBits _) (sizes _ _) (oneCells _) ?_))
          exact bodyPost_ret (v := .agg (cellsOf (put S k k false))) (ret_box rfl rfl (box_size (HF.out _ rfl rfl rfl rfl).2.1)) rfl ⟨rfl, below_setRow (g := w.heap.size + 1) (HF.out ((w1.setCell ⟨w.heap.size, i, none⟩ (.int .u64 (x - P))).drew) rfl rfl rfl rfl).2.2 (by omega) _⟩
      · have hS : S k = false := by cases e : S k; rfl; exact absurd e hs
        rw [hS] at HH
        have hadd := word_add hS
        have HV : Hid ((word S (k / 64) : Int) + ((2 ^ (k % 64) : Nat) : Int) = (word (put S k k true) (k / 64) : Int)) := by unfold Hid; omega
        have p0 : (0 : Int) ≤ (word S (k / 64) : Int) := by omega
        have p1 : (word S (k / 64) : Int) + ((2 ^ (k % 64) : Nat) : Int) < 18446744073709551616 := by omega
        have p2 : (0 : Int) ≤ ((2 ^ (k % 64) : Nat) : Int) := Int.natCast_nonneg _
        obtain ⟨x, hx⟩ : ∃ x : Int, x = (word S (k / 64) : Int) := ⟨_, rfl⟩
        obtain ⟨P, hP⟩ : ∃ x : Int, x = ((2 ^ (k % 64) : Nat) : Int) := ⟨_, rfl⟩
        rw [← hx, ← hP] at HV p1
        rw [← hP] at HP p2
        rw [← hx] at p0
        have HX := hid hx
        obtain ⟨i, hi⟩ : ∃ i, i = k / 64 := ⟨_, rfl⟩
        obtain ⟨r, hr⟩ : ∃ i, i = k % 64 := ⟨_, rfl⟩
        have hq : (k : Int) / 64 = (i : Int) := by omega
        have hqr : (k : Int) % 64 = (r : Int) := by omega
        have hqt : (k : Int).tmod 64 = (r : Int) := by rw [Int.tmod_eq_emod_of_nonneg (by omega)]; omega
        have hqd : (k : Int).tdiv 64 = (i : Int) := by rw [Int.tdiv_eq_ediv_of_nonneg (by omega)]; omega
        have hi1 : i < 256 := by omega
        have hwi : IntKind.i64.wrap (i : Int) = (i : Int) := by rw [IntKind.wrap_i64]; omega
        have hwr : IntKind.i64.wrap (r : Int) = (r : Int) := by rw [IntKind.wrap_i64]; omega
        have hwv : IntKind.u64.wrap (x + P) = x + P := by rw [IntKind.wrap_u64]; omega
        rw [hqr] at HP
        have HI := hid hi
        clear hx hP hadd hw hw' hS hs hi hr
        go_enter Tryz.func74, Tryz.ntmps74
        go_wp2_with (refine wpList_load_want rfl 24 _ rfl w.heap.size rfl 24 _ (0, 0) _ HB0.out Tryz.underlying24 rfl (infoBits _) (Hid.out ?_))
        refine hid ?_
        go_wp2_with fail
        refine (HH.out _).mono ?_; rintro e w1 ⟨rfl, hb1⟩
        have HB1 := hid (HB0.out.below hb1 HB0.out.lt)
        have HZ1 := hid (HZ0.out.below hb1 HZ0.out.lt)
        have HW1 := hid (HW0.out.trans (hb1.mono HW0.out.size))
        have hc : w1.cell? ⟨w.heap.size, i, none⟩ = some (.int .u64 x) := by rw [HB1.out.cell i hi1, HX.out, HI.out]
        have hf : w1.frozen? ⟨w.heap.size, i, none⟩ = false := frozen_of_row w1 w.heap.size i _ _ HB1.out
        clear hb1
        have HF : Hid (∀ W : World, W.heap = (w1.setCell ⟨w.heap.size, i, none⟩ (.int .u64 (x + P))).heap → W.os = w1.os → W.tape = w1.tape → W.output = w1.output → Box W w.heap.size (put S k k true) ∧ Box W (w.heap.size + 1) (fun _ => false) ∧ Below w.heap.size w W) := fun W h1 h2 h3 h4 => by
          have b1 : Box (w1.setCell ⟨w.heap.size, i, none⟩ (.int .u64 (x + P))) w.heap.size (put S k k true) := by rw [HI.out]; exact box_put HB1.out _ HV.out
          have b2 : Box (w1.setCell ⟨w.heap.size, i, none⟩ (.int .u64 (x + P))) (w.heap.size + 1) (fun _ => false) := Box.only (c := w.heap.size) HZ1.out ((Only.refl w.heap.size _).setCell _ _) (by omega)
          have b3 : Below w.heap.size w (w1.setCell ⟨w.heap.size, i, none⟩ (.int .u64 (x + P))) := HW1.out.setCell (Nat.le_refl _) _
          refine ⟨by unfold Box at b1 ⊢; rw [h1]; exact b1, by unfold Box at b2 ⊢; rw [h1]; exact b2, ?_⟩
          exact ⟨h2.trans b3.os, h3.trans b3.tape, h4.trans b3.output, by rw [h1]; exact b3.size, fun j hj => by rw [h1]; exact b3.block j hj⟩
        go_wp2_with fail
        go_region_with (go_at_call 92; refine (HP.out _).mono ?_; rintro e w' ⟨rfl, rfl⟩)
        all_goals
          go_wp2_with (first | (refine wpList_load_row rfl 24 _ rfl w.heap.size rfl 24 _ (0, 0) _ (HF.out _ rfl rfl rfl rfl).1 Tryz.underlying24 rfl (infoBits _) ?_) | (refine wpList_store_row rfl 24 _ _ rfl (w.heap.size + 1) _ rfl rfl 24 _ (HF.out _ rfl rfl rfl rfl).2.1 (infoBits _) (sizes _ _) (oneCells _) ?_))
          exact bodyPost_ret (v := .agg (cellsOf (put S k k true))) (ret_box rfl rfl (box_size (HF.out _ rfl rfl rfl rfl).2.1)) rfl ⟨rfl, below_setRow (g := w.heap.size + 1) (HF.out ((w1.setCell ⟨w.heap.size, i, none⟩ (.int .u64 (x + P))).drew) rfl rfl rfl rfl).2.2 (by omega) _⟩
  · rw [if_neg h]
    by_cases hn : n < 0
    · have d1 : decide (n < 0) = true := decide_eq_true hn
      go_enter Tryz.func74, Tryz.ntmps74
      go_wp2_with (first | (refine wpList_load_row rfl 24 _ rfl w.heap.size rfl 24 _ (0, 0) _ HB0.out Tryz.underlying24 rfl (infoBits _) ?_) | (refine wpList_store_row rfl 24 _ _ rfl (w.heap.size + 1) _ rfl rfl 24 _ HZ0.out (infoBits _) (sizes _ _) (oneCells _) ?_))
      exact bodyPost_ret (v := .agg (cellsOf S)) (ret_box rfl rfl (box_size HZ0.out)) rfl ⟨rfl, below_setRow HW0.out (by omega) _⟩
    · have d1 : decide (n < 0) = false := decide_eq_false hn
      have d2 : decide (16384 ≤ n) = true := decide_eq_true (by omega)
      have hn2 : 16384 ≤ n := by omega
      clear h
      go_enter Tryz.func74, Tryz.ntmps74
      go_wp2_with (first | (refine wpList_load_row rfl 24 _ rfl w.heap.size rfl 24 _ (0, 0) _ HB0.out Tryz.underlying24 rfl (infoBits _) ?_) | (refine wpList_store_row rfl 24 _ _ rfl (w.heap.size + 1) _ rfl rfl 24 _ HZ0.out (infoBits _) (sizes _ _) (oneCells _) ?_))
      exact bodyPost_ret (v := .agg (cellsOf S)) (ret_box rfl rfl (box_size HZ0.out)) rfl ⟨rfl, below_setRow HW0.out (by omega) _⟩

end Go.Proofs.YtbfllifgmlkndaaGreatDoor

namespace Go.Proofs.YtbfllifgmlkndaaGreatDoor
open Go.RowKit
open Slot

/-- from f up to m, m not -/
def fillTo (A : Nat → Bool) (f m : Nat) : Nat → Bool := fun j => if f ≤ j ∧ j < m then true else A j
theorem fill_first (A : Nat → Bool) (f : Nat) : fillTo A f f = A := by funext j; unfold fillTo; rw [if_neg (by omega)]
theorem fill_next (A : Nat → Bool) (f m : Nat) (h : f ≤ m) : put (fillTo A f m) m m true = fillTo A f (m + 1) := by
  funext j
  unfold put fillTo
  by_cases e : m ≤ j ∧ j ≤ m
  · rw [if_pos e, if_pos (by omega)]
  · rw [if_neg e]
    by_cases c : f ≤ j ∧ j < m
    · rw [if_pos c, if_pos (by omega)]
    · rw [if_neg c, if_neg (by omega)]
theorem fill_last (A : Nat → Bool) (f t : Nat) : fillTo A f (t + 1) = put A f t true := by
  funext j
  unfold put fillTo
  by_cases c : f ≤ j ∧ j ≤ t
  · rw [if_pos c, if_pos (by omega)]
  · rw [if_neg c, if_neg (by omega)]

set_option maxHeartbeats 4000000 in
set_option maxRecDepth 100000 in
theorem rMake_core (b off cap : Nat) (l : List (Int × Int)) (w : World) (hl : l.length ≤ 140737488355328) (hlt : b < w.heap.size)
    (hc : ∀ j (h : j < l.length), w.cell? ⟨b, off + j * 2, none⟩ = some (.int .i64 l[j].1) ∧ w.cell? ⟨b, off + j * 2 + 1, none⟩ = some (.int .i64 l[j].2))
    (hr : ∀ j (h : j < l.length), -9223372036854775808 ≤ l[j].1 ∧ l[j].1 ≤ 9223372036854775807 ∧ -9223372036854775808 ≤ l[j].2 ∧ l[j].2 ≤ 9223372036854775807) :
    Calls Tryz.prog 61 #[.slice (some ⟨b, off, none⟩) l.length cap] w fun e w' => e = .returned (makeVal l) ∧ Below w.heap.size w w' := by
  have hz := zeroBits
  have HR0 : Hid (Box ((w.alloc (.cells (cellsOf (fun _ => false)) 24)).alloc (.cells (cellsOf (fun _ => false)) 24)) w.heap.size (fun _ => false)) := heap_alloc2_old w _ _
  have HB0 : Hid (Box ((w.alloc (.cells (cellsOf (fun _ => false)) 24)).alloc (.cells (cellsOf (fun _ => false)) 24)) (w.heap.size + 1) (fun _ => false)) := heap_alloc2_new w _ _
  have HW0 : Hid (Below w.heap.size w ((w.alloc (.cells (cellsOf (fun _ => false)) 24)).alloc (.cells (cellsOf (fun _ => false)) 24))) := (below_alloc w _).alloc (by simp) _
  have HC := hid hc
  have HRg := hid hr
  clear hc hr
  go_enter Tryz.func61, Tryz.ntmps61
  go_wp2
  go_loopw [5, 6] (fun i _ W => ∃ k : Nat, k ≤ l.length ∧ i = .int .i64 k ∧ Hid (Box W w.heap.size (fun _ => false)) ∧ Hid (Box W (w.heap.size + 1) (ofList ((l.take k).map natR))) ∧ Hid ((l.take k).all validR = true) ∧ Hid (Below w.heap.size w W)) (fun i _ _ => l.length - (intOf i).toNat)
  case atStart => exact ⟨0, Nat.zero_le _, rfl, HR0.out, HB0.out, rfl, HW0.out⟩
  case round =>
    obtain ⟨k, hk, rfl, HR, HB, HV, HW⟩ := hrel
    by_cases hlk : k < l.length
    · obtain ⟨c0, c1⟩ := HC.out k hlk
      obtain ⟨r0, r1, r2, r3⟩ := HRg.out k hlk
      obtain ⟨X, hX⟩ : ∃ X, X = wr := ⟨_, rfl⟩
      subst hX
      have hdk : decide ((k : Int) < (l.length : Int)) = true := decide_eq_true (by omega)
      have HCell : Hid (∀ W, Below w.heap.size w W → W.cell? ⟨b, off + k * 2, none⟩ = some (.int .i64 l[k].1) ∧ W.cell? ⟨b, off + k * 2 + 1, none⟩ = some (.int .i64 l[k].2)) := fun W hW => ⟨by rw [hW.cell (p := ⟨b, off + k * 2, none⟩) hlt]; exact c0, by rw [hW.cell (p := ⟨b, off + k * 2 + 1, none⟩) hlt]; exact c1⟩
      generalize hx : l[k].1 = x at HCell r0 r1
      generalize hy : l[k].2 = y at HCell r2 r3
      have HX := hid hx
      have HY := hid hy
      obtain ⟨hd0, hd1⟩ := HCell.out X HW.out
      clear c0 c1 hx hy
      by_cases hv : 0 ≤ x ∧ x ≤ y ∧ y ≤ 16383
      · obtain ⟨h1, h2, h3⟩ := hv
        obtain ⟨f, rfl⟩ := Int.eq_ofNat_of_zero_le h1
        obtain ⟨t, rfl⟩ := Int.eq_ofNat_of_zero_le (Int.le_trans h1 h2)
        have HE : Hid (ofList ((l.take (k + 1)).map natR) = put (ofList ((l.take k).map natR)) f t true) := by
          rw [take_map hlk]
          have : natR l[k] = (f, t) := by unfold natR; rw [HX.out, HY.out]; simp
          rw [this]
          exact ofList_snoc _ _ _
        have HV1 : Hid ((l.take (k + 1)).all validR = true) := by
          rw [take_all hlk HV.out]; unfold validR; rw [HX.out, HY.out]; exact decide_eq_true ⟨by omega, by omega, by omega⟩
        have d1 : decide ((f : Int) < 0) = false := decide_eq_false (by omega)
        have d2 : decide ((t : Int) < (f : Int)) = false := decide_eq_false (by omega)
        have d3 : decide (16383 < (t : Int)) = false := decide_eq_false (by omega)
        have d4 : decide (t < f) = false := decide_eq_false (by omega)
        have d5 : decide (16383 < t) = false := decide_eq_false (by omega)
        have d6 : f ≤ t := by omega
        have d7 : t ≤ 16383 := by omega
        generalize ofList ((l.take k).map natR) = A at HB HE
        go_wp2_with fail
        go_quiet ((fail))
        have HRd := hid (show Box (X.drewN nq) w.heap.size (fun _ => false) from HR.out)
        have HBd : Hid (Box (X.drewN nq) (w.heap.size + 1) (fillTo A f f)) := by unfold Hid; rw [fill_first]; exact HB.out
        have HWd := hid (Below.drewN HW.out nq)
        go_wp2
        go_loopw [6] (fun v W => ∃ m : Nat, f ≤ m ∧ m ≤ t + 1 ∧ v = .int .i64 m ∧ Hid (Box W w.heap.size (fun _ => false)) ∧ Hid (Box W (w.heap.size + 1) (fillTo A f m)) ∧ Hid (Below w.heap.size w W)) (fun v _ => t + 1 - (intOf v).toNat)
        case atStart => exact ⟨f, Nat.le_refl _, by omega, rfl, HRd.out, HBd.out, HWd.out⟩
        case round =>
          obtain ⟨m, hm1, hm2, rfl, HR1, HB1, HW1⟩ := hrel
          obtain ⟨Y, hY⟩ : ∃ Y, Y = wr := ⟨_, rfl⟩
          subst hY
          obtain ⟨e0, e1⟩ := HCell.out Y HW1.out
          by_cases hmt : m ≤ t
          · have HWt : Hid (Calls Tryz.prog 74 #[.agg (cellsOf (fillTo A f m)), .int .i64 m, .bool true] Y fun e w' => e = .returned (.agg (cellsOf (fillTo A f (m + 1)))) ∧ Below Y.heap.size Y w') := by
              have := rWith_any (fillTo A f m) m true Y
              rw [if_pos ⟨by omega, by omega⟩, Int.toNat_natCast, fill_next A f m hm1] at this
              exact this
            go_wp2_with (refine wpList_load_row rfl 24 _ rfl (w.heap.size + 1) rfl 24 _ (0, 0) _ HB1.out Tryz.underlying24 rfl (infoBits _) (Hid.out ?_))
            refine hid ?_
            go_wp2_with fail
            refine HWt.out.mono ?_; rintro e w2 ⟨rfl, hb2⟩
            have HR2 := hid (HR1.out.below hb2 HR1.out.lt)
            have HB2 := hid (HB1.out.below hb2 HB1.out.lt)
            have HW2 := hid (HW1.out.trans (hb2.mono HW1.out.size))
            clear hb2
            have HR3 : Hid (Box (w2.setRow (w.heap.size + 1) (cellsOf (fillTo A f (m + 1)))) w.heap.size (fun _ => false)) := (setRow_other _ _ _ _ (by omega)).trans HR2.out
            have HB3 : Hid (Box (w2.setRow (w.heap.size + 1) (cellsOf (fillTo A f (m + 1)))) (w.heap.size + 1) (fillTo A f (m + 1))) := box_size HB2.out
            have HW3 := hid (below_setRow HW2.out (show w.heap.size ≤ w.heap.size + 1 by omega) (cellsOf (fillTo A f (m + 1))))
            go_wp2_with (refine wpList_store_row rfl 24 _ _ rfl (w.heap.size + 1) (cellsOf (fillTo A f (m + 1))) rfl rfl 24 _ HB2.out (infoBits _) (sizes _ _) (oneCells _) ?_)
            go_roundw
            case rel =>
              have hrel : ∃ m1 : Nat, f ≤ m1 ∧ m1 ≤ t + 1 ∧ Value.int .i64 ((m : Int) + 1) = .int .i64 m1 ∧ Hid (Box (w2.setRow (w.heap.size + 1) (cellsOf (fillTo A f (m + 1)))) w.heap.size (fun _ => false)) ∧ Hid (Box (w2.setRow (w.heap.size + 1) (cellsOf (fillTo A f (m + 1)))) (w.heap.size + 1) (fillTo A f m1)) ∧ Hid (Below w.heap.size w (w2.setRow (w.heap.size + 1) (cellsOf (fillTo A f (m + 1))))) := ⟨m + 1, by omega, by omega, by go_num, HR3.out, HB3.out, HW3.out⟩
              first | exact hrel | ((repeat apply Exists.intro); exact ⟨hrel, rfl⟩)
            case measure => simp [intOf]; omega
          · have em : m = t + 1 := by omega
            subst em
            rw [fill_last, ← HE.out] at HB1
            go_wp2
            go_roundw
            case rel => exact ⟨k + 1, by omega, by go_num, HR1.out, HB1.out, HV1.out, HW1.out⟩
            case measure => simp [intOf]; omega
      · have HN : Hid (l.all validR = false) := not_all hlk (by unfold validR; rw [HX.out, HY.out]; exact decide_eq_false hv)
        have HRa : Hid (∀ n, Box (X.drewN n) w.heap.size (fun _ => false)) := fun n => HR.out
        have fin : Hid (∀ n, Box ((X.drewN n).setRow w.heap.size (cellsOf fun _ => false)) w.heap.size (fun _ => false) ∧ Below w.heap.size w ((X.drewN n).setRow w.heap.size (cellsOf fun _ => false))) := fun n => ⟨box_size (HRa.out n), below_setRow (Below.drewN HW.out n) (Nat.le_refl _) _⟩
        by_cases h1 : x < 0
        · have d1 : decide (x < 0) = true := decide_eq_true h1
          go_wp2_with fail
          go_quiet ((fail))
          go_wp2_with (refine wpList_store_row rfl 24 _ _ rfl w.heap.size _ rfl rfl 24 _ (HRa.out nq) (infoBits _) (sizes _ _) (oneCells _) ?_)
          exact bodyPost_ret (v := .tuple #[.agg (cellsOf fun _ => false), .int .i64 20]) (ret_box2 rfl rfl rfl (fin.out nq).1) rfl ⟨by rw [makeVal_bad HN.out], (fin.out nq).2⟩
        · have d1 : decide (x < 0) = false := decide_eq_false h1
          by_cases h2 : y < x
          · have d2 : decide (y < x) = true := decide_eq_true h2
            go_wp2_with fail
            go_quiet ((fail))
            go_wp2_with (refine wpList_store_row rfl 24 _ _ rfl w.heap.size _ rfl rfl 24 _ (HRa.out nq) (infoBits _) (sizes _ _) (oneCells _) ?_)
            exact bodyPost_ret (v := .tuple #[.agg (cellsOf fun _ => false), .int .i64 20]) (ret_box2 rfl rfl rfl (fin.out nq).1) rfl ⟨by rw [makeVal_bad HN.out], (fin.out nq).2⟩
          · have d2 : decide (y < x) = false := decide_eq_false h2
            have h3 : 16383 < y := by omega
            have d3 : decide (16383 < y) = true := decide_eq_true h3
            clear hv
            go_wp2_with fail
            go_quiet ((fail))
            go_wp2_with (refine wpList_store_row rfl 24 _ _ rfl w.heap.size _ rfl rfl 24 _ (HRa.out nq) (infoBits _) (sizes _ _) (oneCells _) ?_)
            exact bodyPost_ret (v := .tuple #[.agg (cellsOf fun _ => false), .int .i64 20]) (ret_box2 rfl rfl rfl (fin.out nq).1) rfl ⟨by rw [makeVal_bad HN.out], (fin.out nq).2⟩
    · have e : l.take k = l := List.take_of_length_le (by omega)
      rw [e] at HB HV
      go_wp2_with (first | (refine wpList_load_row rfl 24 _ rfl (w.heap.size + 1) rfl 24 _ (0, 0) _ HB.out Tryz.underlying24 rfl (infoBits _) ?_) | (refine wpList_store_row rfl 24 _ _ rfl w.heap.size _ rfl rfl 24 _ HR.out (infoBits _) (sizes _ _) (oneCells _) ?_))
      exact bodyPost_ret (v := .tuple #[.agg (cellsOf (ofList (l.map natR))), .int .i64 0]) (ret_box2 rfl rfl rfl (box_size HR.out)) rfl ⟨by rw [makeVal_ok HV.out], below_setRow HW.out (Nat.le_refl _) _⟩

set_option maxHeartbeats 1000000 in
set_option maxRecDepth 100000 in
theorem rMake_none (a : Option Addr) (cap : Nat) (w : World) :
    Calls Tryz.prog 61 #[.slice a 0 cap] w fun e w' => e = .returned (makeVal []) ∧ Below w.heap.size w w' := by
  have hz := zeroBits
  have HR0 : Hid (Box ((w.alloc (.cells (cellsOf (fun _ => false)) 24)).alloc (.cells (cellsOf (fun _ => false)) 24)) w.heap.size (fun _ => false)) := heap_alloc2_old w _ _
  have HB0 : Hid (Box ((w.alloc (.cells (cellsOf (fun _ => false)) 24)).alloc (.cells (cellsOf (fun _ => false)) 24)) (w.heap.size + 1) (fun _ => false)) := heap_alloc2_new w _ _
  have HW0 : Hid (Below w.heap.size w ((w.alloc (.cells (cellsOf (fun _ => false)) 24)).alloc (.cells (cellsOf (fun _ => false)) 24))) := (below_alloc w _).alloc (by simp) _
  go_enter Tryz.func61, Tryz.ntmps61
  go_wp2
  refine wp_loop_rounds 1 ?_
  rw [rounds_succ]
  go_wp2_with (first | (refine wpList_load_row rfl 24 _ rfl (w.heap.size + 1) rfl 24 _ (0, 0) _ HB0.out Tryz.underlying24 rfl (infoBits _) ?_) | (refine wpList_store_row rfl 24 _ _ rfl w.heap.size _ rfl rfl 24 _ HR0.out (infoBits _) (sizes _ _) (oneCells _) ?_))
  exact bodyPost_ret (v := .tuple #[.agg (cellsOf (fun _ => false)), .int .i64 0]) (ret_box2 rfl rfl rfl (box_size HR0.out)) rfl ⟨rfl, below_setRow HW0.out (Nat.le_refl _) _⟩
/-- ref Make -/
theorem rMake_any (a : Option Addr) (cap : Nat) (l : List (Int × Int)) (w : World) (hr : RowR w a l)
    (hi : ∀ j (h : j < l.length), -9223372036854775808 ≤ l[j].1 ∧ l[j].1 ≤ 9223372036854775807 ∧ -9223372036854775808 ≤ l[j].2 ∧ l[j].2 ≤ 9223372036854775807) :
    Calls Tryz.prog 61 #[.slice a l.length cap] w fun e w' => e = .returned (makeVal l) ∧ Below w.heap.size w w' := by
  by_cases h : l = []
  · subst h
    exact rMake_none a cap w
  · obtain ⟨b, off, rfl, hc⟩ := hr.2 h
    have hp : 0 < l.length := List.length_pos_iff.2 h
    exact rMake_core b off cap l w hr.1 (block_lt_of_cell (hc 0 hp).1) hc hi
theorem RowR.below {w w' : World} {a : Option Addr} {l : List (Int × Int)} (h : RowR w a l) (hb : Below w.heap.size w w') : RowR w' a l := by
  refine ⟨h.1, fun hl => ?_⟩
  obtain ⟨b, off, ha, hc⟩ := h.2 hl
  exact ⟨b, off, ha, fun j hj => ⟨by rw [hb.cell (p := ⟨b, off + j * 2, none⟩) (block_lt_of_cell (hc j hj).1)]; exact (hc j hj).1, by rw [hb.cell (p := ⟨b, off + j * 2 + 1, none⟩) (block_lt_of_cell (hc j hj).2)]; exact (hc j hj).2⟩⟩
end Go.Proofs.YtbfllifgmlkndaaGreatDoor
