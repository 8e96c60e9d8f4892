/- RefWith, RefMake, RefParse. -/
import Derived.Test.YtbfllifgmlkndaaGreatDoorM17
import Derived.Test.YtbfllifgmlkndaaGreatDoorM14
import Derived.Test.YtbfllifgmlkndaaGreatDoorM15
import Derived.Test.YtbfllifgmlkndaaGreatDoorM04
namespace Go.Proofs.YtbfllifgmlkndaaGreatDoor
open Go.RowKit
open Slot

set_option maxHeartbeats 2000000 in
set_option maxRecDepth 100000 in
/-- ref With -/
theorem rWith_any (S : Nat → Bool) (n : Int) (on : Bool) (w : World) :
    Calls Tryz.prog 74 #[.agg (cellsOf S), .int .i64 n, .bool on] w fun e w' => e = .returned (.agg (cellsOf (if 0 ≤ n ∧ n < 16384 then put S n.toNat n.toNat on else S))) ∧ Below w.heap.size w w' := by
  have hz := zeroBits
  have HB0 : Hid (Box ((w.alloc (.cells (cellsOf S) 24)).alloc (.cells (cellsOf (fun _ => false)) 24)) w.heap.size S) := heap_alloc2_old w _ _
  have HZ0 : Hid (Box ((w.alloc (.cells (cellsOf S) 24)).alloc (.cells (cellsOf (fun _ => false)) 24)) (w.heap.size + 1) (fun _ => false)) := heap_alloc2_new w _ _
  have HW0 : Hid (Below w.heap.size w ((w.alloc (.cells (cellsOf S) 24)).alloc (.cells (cellsOf (fun _ => false)) 24))) := (below_alloc w _).alloc (by simp) _
  have HH := hid (rHas_any S n)
  by_cases h : 0 ≤ n ∧ n < 16384
  · obtain ⟨k, rfl⟩ := Int.eq_ofNat_of_zero_le h.1
    have hk : k < 16384 := by omega
    rw [decide_eq_true h, Bool.true_and, Int.toNat_natCast] at HH
    rw [if_pos h, Int.toNat_natCast]
    clear h
    have d1 : decide ((k : Int) < 0) = false := decide_eq_false (by omega)
    have d2 : decide (16384 ≤ (k : Int)) = false := decide_eq_false (by omega)
    by_cases hs : S k = on
    · rw [put_same hs]
      rw [hs] at HH
      go_enter Tryz.func74, Tryz.ntmps74
      go_wp2_with (refine wpList_load_want rfl 24 _ rfl w.heap.size rfl 24 _ (0, 0) _ HB0.out Tryz.underlying24 rfl (infoBits _) (Hid.out ?_))
      refine hid ?_
      go_wp2_with fail
      refine (HH.out _).mono ?_; rintro e w1 ⟨rfl, hb1⟩
      have HB1 := hid (HB0.out.below hb1 HB0.out.lt)
      have HZ1 := hid (HZ0.out.below hb1 HZ0.out.lt)
      have HW1 := hid (HW0.out.trans (hb1.mono HW0.out.size))
      clear hb1
      go_wp2_with (first | (refine wpList_load_row rfl 24 _ rfl w.heap.size rfl 24 _ (0, 0) _ HB1.out Tryz.underlying24 rfl (infoBits _) ?_) | (refine wpList_store_row rfl 24 _ _ rfl (w.heap.size + 1) _ rfl rfl 24 _ HZ1.out (infoBits _) (sizes _ _) (oneCells _) ?_))
      exact bodyPost_ret (v := .agg (cellsOf S)) (ret_box rfl rfl (box_size HZ1.out)) rfl ⟨rfl, below_setRow HW1.out (by omega) _⟩
    · have HP : Hid (∀ W, Calls Tryz.prog 92 #[.int .i64 ((k : Int) % 64)] W fun e w' => e = .returned (.int .u64 ((2 ^ (k % 64) : Nat) : Int)) ∧ w' = W) := fun W => by
        have := power_any (k % 64) W (by omega)
        rwa [show ((k % 64 : Nat) : Int) = (k : Int) % 64 by omega] at this
      have hw := word_lt S (k / 64)
      have hw' := word_lt (put S k k on) (k / 64)
      cases on
      · have hS : S k = true := by cases e : S k; exact absurd e hs; rfl
        rw [hS] at HH
        have hsub := word_sub hS
        have HV : Hid ((word S (k / 64) : Int) - ((2 ^ (k % 64) : Nat) : Int) = (word (put S k k false) (k / 64) : Int)) := by unfold Hid; omega
        have p0 : (0 : Int) ≤ (word S (k / 64) : Int) - ((2 ^ (k % 64) : Nat) : Int) := by omega
        have p1 : (word S (k / 64) : Int) - ((2 ^ (k % 64) : Nat) : Int) < 18446744073709551616 := by omega
        have p2 : (0 : Int) ≤ ((2 ^ (k % 64) : Nat) : Int) := Int.natCast_nonneg _
        have p3 : (word S (k / 64) : Int) < 18446744073709551616 := by omega
        obtain ⟨x, hx⟩ : ∃ x : Int, x = (word S (k / 64) : Int) := ⟨_, rfl⟩
        obtain ⟨P, hP⟩ : ∃ x : Int, x = ((2 ^ (k % 64) : Nat) : Int) := ⟨_, rfl⟩
        rw [← hx, ← hP] at HV p0 p1
        rw [← hP] at HP p2
        rw [← hx] at p3
        have HX := hid hx
        obtain ⟨i, hi⟩ : ∃ i, i = k / 64 := ⟨_, rfl⟩
        obtain ⟨r, hr⟩ : ∃ i, i = k % 64 := ⟨_, rfl⟩
        have hq : (k : Int) / 64 = (i : Int) := by omega
        have hqr : (k : Int) % 64 = (r : Int) := by omega
        have hqt : (k : Int).tmod 64 = (r : Int) := by rw [Int.tmod_eq_emod_of_nonneg (by omega)]; omega
        have hqd : (k : Int).tdiv 64 = (i : Int) := by rw [Int.tdiv_eq_ediv_of_nonneg (by omega)]; omega
        have hi1 : i < 256 := by omega
        have hwi : IntKind.i64.wrap (i : Int) = (i : Int) := by rw [IntKind.wrap_i64]; omega
        have hwr : IntKind.i64.wrap (r : Int) = (r : Int) := by rw [IntKind.wrap_i64]; omega
        have hwv : IntKind.u64.wrap (x - P) = x - P := by rw [IntKind.wrap_u64]; omega
        rw [hqr] at HP
        have HI := hid hi
        clear hx hP hsub hw hw' hS hs hi hr
        go_enter Tryz.func74, Tryz.ntmps74
        go_wp2_with (refine wpList_load_want rfl 24 _ rfl w.heap.size rfl 24 _ (0, 0) _ HB0.out Tryz.underlying24 rfl (infoBits _) (Hid.out ?_))
        refine hid ?_
        go_wp2_with fail
        refine (HH.out _).mono ?_; rintro e w1 ⟨rfl, hb1⟩
        have HB1 := hid (HB0.out.below hb1 HB0.out.lt)
        have HZ1 := hid (HZ0.out.below hb1 HZ0.out.lt)
        have HW1 := hid (HW0.out.trans (hb1.mono HW0.out.size))
        have hc : w1.cell? ⟨w.heap.size, i, none⟩ = some (.int .u64 x) := by rw [HB1.out.cell i hi1, HX.out, HI.out]
        have hf : w1.frozen? ⟨w.heap.size, i, none⟩ = false := frozen_of_row w1 w.heap.size i _ _ HB1.out
        clear hb1
        have HF : Hid (∀ W : World, W.heap = (w1.setCell ⟨w.heap.size, i, none⟩ (.int .u64 (x - P))).heap → W.os = w1.os → W.tape = w1.tape → W.output = w1.output → Box W w.heap.size (put S k k false) ∧ Box W (w.heap.size + 1) (fun _ => false) ∧ Below w.heap.size w W) := fun W h1 h2 h3 h4 => by
          have b1 : Box (w1.setCell ⟨w.heap.size, i, none⟩ (.int .u64 (x - P))) w.heap.size (put S k k false) := by rw [HI.out]; exact box_put HB1.out _ HV.out
          have b2 : Box (w1.setCell ⟨w.heap.size, i, none⟩ (.int .u64 (x - P))) (w.heap.size + 1) (fun _ => false) := Box.only (c := w.heap.size) HZ1.out ((Only.refl w.heap.size _).setCell _ _) (by omega)
          have b3 : Below w.heap.size w (w1.setCell ⟨w.heap.size, i, none⟩ (.int .u64 (x - P))) := HW1.out.setCell (Nat.le_refl _) _
          refine ⟨by unfold Box at b1 ⊢; rw [h1]; exact b1, by unfold Box at b2 ⊢; rw [h1]; exact b2, ?_⟩
          exact ⟨h2.trans b3.os, h3.trans b3.tape, h4.trans b3.output, by rw [h1]; exact b3.size, fun j hj => by rw [h1]; exact b3.block j hj⟩
        go_wp2_with fail
        go_region_with (go_at_call 92; refine (HP.out _).mono ?_; rintro e w' ⟨rfl, rfl⟩)
        all_goals
          go_wp2_with (first | (refine wpList_load_row rfl 24 _ rfl w.heap.size rfl 24 _ (0, 0) _ (HF.out _ rfl rfl rfl rfl).1 Tryz.underlying24 rfl (infoBits _) ?_) | (refine wpList_store_row rfl 24 _ _ rfl (w.heap.size + 1) _ rfl rfl 24 _ (HF.out _ rfl rfl rfl rfl).2.1 (infoBits _) (sizes _ _) (oneCells _) ?_))
          exact bodyPost_ret (v := .agg (cellsOf (put S k k false))) (ret_box rfl rfl (box_size (HF.out _ rfl rfl rfl rfl).2.1)) rfl ⟨rfl, below_setRow (g := w.heap.size + 1) (HF.out ((w1.setCell ⟨w.heap.size, i, none⟩ (.int .u64 (x - P))).drew) rfl rfl rfl rfl).2.2 (by omega) _⟩
      · have hS : S k = false := by cases e : S k; rfl; exact absurd e hs
        rw [hS] at HH
        have hadd := word_add hS
        have HV : Hid ((word S (k / 64) : Int) + ((2 ^ (k % 64) : Nat) : Int) = (word (put S k k true) (k / 64) : Int)) := by unfold Hid; omega
        have p0 : (0 : Int) ≤ (word S (k / 64) : Int) := by omega
        have p1 : (word S (k / 64) : Int) + ((2 ^ (k % 64) : Nat) : Int) < 18446744073709551616 := by omega
        have p2 : (0 : Int) ≤ ((2 ^ (k % 64) : Nat) : Int) := Int.natCast_nonneg _
        obtain ⟨x, hx⟩ : ∃ x : Int, x = (word S (k / 64) : Int) := ⟨_, rfl⟩
        obtain ⟨P, hP⟩ : ∃ x : Int, x = ((2 ^ (k % 64) : Nat) : Int) := ⟨_, rfl⟩
        rw [← hx, ← hP] at HV p1
        rw [← hP] at HP p2
        rw [← hx] at p0
        have HX := hid hx
        obtain ⟨i, hi⟩ : ∃ i, i = k / 64 := ⟨_, rfl⟩
        obtain ⟨r, hr⟩ : ∃ i, i = k % 64 := ⟨_, rfl⟩
        have hq : (k : Int) / 64 = (i : Int) := by omega
        have hqr : (k : Int) % 64 = (r : Int) := by omega
        have hqt : (k : Int).tmod 64 = (r : Int) := by rw [Int.tmod_eq_emod_of_nonneg (by omega)]; omega
        have hqd : (k : Int).tdiv 64 = (i : Int) := by rw [Int.tdiv_eq_ediv_of_nonneg (by omega)]; omega
        have hi1 : i < 256 := by omega
        have hwi : IntKind.i64.wrap (i : Int) = (i : Int) := by rw [IntKind.wrap_i64]; omega
        have hwr : IntKind.i64.wrap (r : Int) = (r : Int) := by rw [IntKind.wrap_i64]; omega
        have hwv : IntKind.u64.wrap (x + P) = x + P := by rw [IntKind.wrap_u64]; omega
        rw [hqr] at HP
        have HI := hid hi
        clear hx hP hadd hw hw' hS hs hi hr
        go_enter Tryz.func74, Tryz.ntmps74
        go_wp2_with (refine wpList_load_want rfl 24 _ rfl w.heap.size rfl 24 _ (0, 0) _ HB0.out Tryz.underlying24 rfl (infoBits _) (Hid.out ?_))
        refine hid ?_
        go_wp2_with fail
        refine (HH.out _).mono ?_; rintro e w1 ⟨rfl, hb1⟩
        have HB1 := hid (HB0.out.below hb1 HB0.out.lt)
        have HZ1 := hid (HZ0.out.below hb1 HZ0.out.lt)
        have HW1 := hid (HW0.out.trans (hb1.mono HW0.out.size))
        have hc : w1.cell? ⟨w.heap.size, i, none⟩ = some (.int .u64 x) := by rw [HB1.out.cell i hi1, HX.out, HI.out]
        have hf : w1.frozen? ⟨w.heap.size, i, none⟩ = false := frozen_of_row w1 w.heap.size i _ _ HB1.out
        clear hb1
        have HF : Hid (∀ W : World, W.heap = (w1.setCell ⟨w.heap.size, i, none⟩ (.int .u64 (x + P))).heap → W.os = w1.os → W.tape = w1.tape → W.output = w1.output → Box W w.heap.size (put S k k true) ∧ Box W (w.heap.size + 1) (fun _ => false) ∧ Below w.heap.size w W) := fun W h1 h2 h3 h4 => by
          have b1 : Box (w1.setCell ⟨w.heap.size, i, none⟩ (.int .u64 (x + P))) w.heap.size (put S k k true) := by rw [HI.out]; exact box_put HB1.out _ HV.out
          have b2 : Box (w1.setCell ⟨w.heap.size, i, none⟩ (.int .u64 (x + P))) (w.heap.size + 1) (fun _ => false) := Box.only (c := w.heap.size) HZ1.out ((Only.refl w.heap.size _).setCell _ _) (by omega)
          have b3 : Below w.heap.size w (w1.setCell ⟨w.heap.size, i, none⟩ (.int .u64 (x + P))) := HW1.out.setCell (Nat.le_refl _) _
          refine ⟨by unfold Box at b1 ⊢; rw [h1]; exact b1, by unfold Box at b2 ⊢; rw [h1]; exact b2, ?_⟩
          exact ⟨h2.trans b3.os, h3.trans b3.tape, h4.trans b3.output, by rw [h1]; exact b3.size, fun j hj => by rw [h1]; exact b3.block j hj⟩
        go_wp2_with fail
        go_region_with (go_at_call 92; refine (HP.out _).mono ?_; rintro e w' ⟨rfl, rfl⟩)
        all_goals
          go_wp2_with (first | (refine wpList_load_row rfl 24 _ rfl w.heap.size rfl 24 _ (0, 0) _ (HF.out _ rfl rfl rfl rfl).1 Tryz.underlying24 rfl (infoBits _) ?_) | (refine wpList_store_row rfl 24 _ _ rfl (w.heap.size + 1) _ rfl rfl 24 _ (HF.out _ rfl rfl rfl rfl).2.1 (infoBits _) (sizes _ _) (oneCells _) ?_))
          exact bodyPost_ret (v := .agg (cellsOf (put S k k true))) (ret_box rfl rfl (box_size (HF.out _ rfl rfl rfl rfl).2.1)) rfl ⟨rfl, below_setRow (g := w.heap.size + 1) (HF.out ((w1.setCell ⟨w.heap.size, i, none⟩ (.int .u64 (x + P))).drew) rfl rfl rfl rfl).2.2 (by omega) _⟩
  · rw [if_neg h]
    by_cases hn : n < 0
    · have d1 : decide (n < 0) = true := decide_eq_true hn
      go_enter Tryz.func74, Tryz.ntmps74
      go_wp2_with (first | (refine wpList_load_row rfl 24 _ rfl w.heap.size rfl 24 _ (0, 0) _ HB0.out Tryz.underlying24 rfl (infoBits _) ?_) | (refine wpList_store_row rfl 24 _ _ rfl (w.heap.size + 1) _ rfl rfl 24 _ HZ0.out (infoBits _) (sizes _ _) (oneCells _) ?_))
      exact bodyPost_ret (v := .agg (cellsOf S)) (ret_box rfl rfl (box_size HZ0.out)) rfl ⟨rfl, below_setRow HW0.out (by omega) _⟩
    · have d1 : decide (n < 0) = false := decide_eq_false hn
      have d2 : decide (16384 ≤ n) = true := decide_eq_true (by omega)
      have hn2 : 16384 ≤ n := by omega
      clear h
      go_enter Tryz.func74, Tryz.ntmps74
      go_wp2_with (first | (refine wpList_load_row rfl 24 _ rfl w.heap.size rfl 24 _ (0, 0) _ HB0.out Tryz.underlying24 rfl (infoBits _) ?_) | (refine wpList_store_row rfl 24 _ _ rfl (w.heap.size + 1) _ rfl rfl 24 _ HZ0.out (infoBits _) (sizes _ _) (oneCells _) ?_))
      exact bodyPost_ret (v := .agg (cellsOf S)) (ret_box rfl rfl (box_size HZ0.out)) rfl ⟨rfl, below_setRow HW0.out (by omega) _⟩

end Go.Proofs.YtbfllifgmlkndaaGreatDoor

namespace Go.Proofs.YtbfllifgmlkndaaGreatDoor
open Go.RowKit
open Slot

theorem RowR.below {w w' : World} {a : Option Addr} {l : List (Int × Int)} (h : RowR w a l) (hb : Below w.heap.size w w') : RowR w' a l := by
  refine ⟨h.1, fun hl => ?_⟩
  obtain ⟨b, off, ha, hc⟩ := h.2 hl
  exact ⟨b, off, ha, fun j hj => ⟨by rw [hb.cell (p := ⟨b, off + j * 2, none⟩) (block_lt_of_cell (hc j hj).1)]; exact (hc j hj).1, by rw [hb.cell (p := ⟨b, off + j * 2 + 1, none⟩) (block_lt_of_cell (hc j hj).2)]; exact (hc j hj).2⟩⟩
end Go.Proofs.YtbfllifgmlkndaaGreatDoor

namespace Go.Proofs.YtbfllifgmlkndaaGreatDoor
open Go.RowKit
open Slot

theorem flat_set (l : List (Nat × Nat)) (f t n : Nat) : (flat (l ++ [(f, t)])).set (l.length * 2 + 1) (.int .i64 n) = flat (l ++ [(f, n)]) := by
  rw [flat_append, flat_append]
  have := flat_length l
  rw [List.set_append_right _ _ (by omega), this]
  congr 1
  simp [flat]
theorem owns_form {w : World} {B : Nat} {e : TypeId} {size : Nat} {v : Value} {n : Nat} {xs : List Value} (h : w.ownsRow B e size v n xs) (hn : 0 < n) : ∃ g cap, v = .slice (some ⟨g, 0, none⟩) n cap := by
  rcases h.2 with ⟨_, h0⟩ | ⟨g, cap, cur, hu, _⟩
  · omega
  · exact ⟨g, cap, hu⟩
end Go.Proofs.YtbfllifgmlkndaaGreatDoor
