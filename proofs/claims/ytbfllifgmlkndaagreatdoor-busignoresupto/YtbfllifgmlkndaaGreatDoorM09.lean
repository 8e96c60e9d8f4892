/- RefAll, Gaps, RefRanges, CrcRef, Zero, ZeroV, Scan, BusM. -/
import Derived.Test.YtbfllifgmlkndaaGreatDoorM07
import Derived.Deep.RegionLaw
import Derived.Test.YtbfllifgmlkndaaGreatDoorM04
import Derived.Test.YtbfllifgmlkndaaGreatDoorProg
import Derived.KernelRfl
import Derived.Below
import Derived.WalkKit
import Derived.Test.YtbfllifgmlkndaaGreatDoorM02
import Derived.Test.YtbfllifgmlkndaaGreatDoorM05
namespace Go.Proofs.YtbfllifgmlkndaaGreatDoor
open Go.RowKit
open Slot

/-- the slots below m -/
def upto (S : Nat → Bool) (m : Nat) : List Nat := (List.range m).filter S
theorem upto_succ (S : Nat → Bool) (m : Nat) : upto S (m + 1) = upto S m ++ if S m then [m] else [] := by
  unfold upto
  rw [List.range_succ, List.filter_append]
  cases h : S m <;> simp [h]
theorem upto_len (S : Nat → Bool) (m : Nat) : (upto S m).length ≤ m := by
  unfold upto
  have := List.length_filter_le S (List.range m)
  simpa using this
theorem upto_skip {S : Nat → Bool} {a n : Nat} (h : ∀ k, k < n → S (a + k) = false) : upto S (a + n) = upto S a := by
  induction n with
  | zero => rfl
  | succ n ih => rw [← Nat.add_assoc, upto_succ, ih (fun k hk => h k (by omega)), h n (by omega)]; simp
/-- numbers, cell by cell -/
def nums (l : List Nat) : List Value := l.map fun (n : Nat) => Value.int .i64 (n : Int)
theorem infoInt : (Tryz.prog.info? 3).map (fun i => (i.zero, i.size, i.bytes)) = some (some (.int .i64 0), 1, 8) := by kernel_rfl
theorem pushn_run (B : Nat) (w : World) (v : Value) (l : List Nat) (n : Nat) (z : Int) (hz : z = (n : Int)) (hown : w.ownsRow B 3 1 v l.length (nums l)) (hB : B ≤ w.heap.size) (hlen : l.length ≤ 16384) :
    ∃ v' w', (Builtin.append_ #[61, 61] 61 #[v, .slice (some ⟨w.heap.size, 0, none⟩) 1 1]).run Tryz.prog (w.alloc (.cells #[.int .i64 z] 3)) = .ok v' w' ∧ w'.ownsRow B 3 1 v' (l ++ [n]).length (nums (l ++ [n])) ∧ Below B w w' ∧ B ≤ w'.heap.size := by
  subst hz
  obtain ⟨i0, hi, hz0, hz1, hz2⟩ := info_parts infoInt
  have hown' := owns_below hown (below_alloc w (.cells #[.int .i64 (n : Int)] 3))
  obtain ⟨v', w', hrun, ho, hgr, _⟩ := run_append_own (P := Tryz.prog) (w.alloc (.cells #[.int .i64 (n : Int)] 3)) B 61 61 3 i0 (.int .i64 0) 1 8 Tryz.underlying61 hi hz0 hz1 hz2 rfl (by decide) _ _ _ hown' ⟨w.heap.size, 0, none⟩ 1 1 [.int .i64 (n : Int)] rfl
    (fun j u hj => by
      rw [Go.WideShapes.add_plain, cell_of_row _ _ _ _ _ _ (heap_alloc_new w _)]
      simpa using hj)
    (fun u hu => by rw [List.mem_singleton.1 hu]; rfl) (by unfold maxLen; omega) (by omega) (by simp; omega)
  refine ⟨v', w', hrun, ?_, ?_, ?_⟩
  · rw [show nums (l ++ [n]) = nums l ++ [.int .i64 (n : Int)] by simp [nums], List.length_append]
    exact ho
  · exact ((Below.refl B w).alloc hB _).grown hgr (by simp; omega) (fun k hk => (World.ownsRow.lt hown k hk).1)
  · have := hgr.size; simp at this; omega
theorem shift_bit (S : Nat → Bool) (i k : Nat) (hk : k < 64) : (word S i / 2 ^ k % 2 = 1) ↔ S (64 * i + k) = true := by
  have h := word_bit S (64 * i + k)
  rw [show (64 * i + k) / 64 = i by omega, show (64 * i + k) % 64 = k by omega, Nat.testBit_eq_decide_div_mod_eq] at h
  rw [← h]; simp
theorem shift_end (S : Nat → Bool) (i k : Nat) (h : word S i / 2 ^ k = 0) : ∀ j, k ≤ j → j < 64 → S (64 * i + j) = false := fun j h1 h2 => by
  have h3 : word S i < 2 ^ k := by
    have := Nat.lt_of_div_eq_zero (Nat.pow_pos (by decide)) h
    exact this
  have hb := word_bit S (64 * i + j)
  rw [show (64 * i + j) / 64 = i by omega, show (64 * i + j) % 64 = j by omega] at hb
  rw [← hb]
  exact Nat.testBit_lt_two_pow (Nat.lt_of_lt_of_le h3 (Nat.pow_le_pow_right (by decide) h1))
theorem shift_live {S : Nat → Bool} {i k : Nat} (h : 0 < word S i / 2 ^ k) : k < 64 := by
  by_cases hk : k < 64
  · exact hk
  · exfalso
    have h1 := word_lt S i
    have h2 : 2 ^ 64 ≤ 2 ^ k := Nat.pow_le_pow_right (by decide) (by omega)
    have : word S i / 2 ^ k = 0 := Nat.div_eq_of_lt (by omega)
    omega

set_option maxHeartbeats 2000000 in
set_option maxRecDepth 100000 in
/-- ref All -/
theorem rAll_any (S : Nat → Bool) (w : World) :
    Calls Tryz.prog 26 #[.agg (cellsOf S)] w fun e w' => (∃ v, e = .returned v ∧ w'.ownsRow (w.heap.size + 1) 3 1 v (upto S 16384).length (nums (upto S 16384))) ∧ Below w.heap.size w w' := by
  have HB0 := hid (box_new w S)
  go_enter Tryz.func26, Tryz.ntmps26
  go_wp2
  go_loopw [3, 4, 5, 6] (fun v i _ _ W => ∃ n : Nat, n ≤ 256 ∧ i = .int .i64 n ∧ Hid (W.ownsRow (w.heap.size + 1) 3 1 v (upto S (64 * n)).length (nums (upto S (64 * n)))) ∧ Hid (Below (w.heap.size + 1) (w.alloc (.cells (cellsOf S) 24)) W) ∧ w.heap.size + 1 ≤ W.heap.size) (fun _ i _ _ _ => 256 - (intOf i).toNat)
  case atStart => exact ⟨0, Nat.zero_le _, rfl, (World.ownsRow_nil _ _ _ _ : World.ownsRow _ _ _ _ (.slice none 0 0) 0 []), Below.refl _ _, by simp⟩
  case round =>
    obtain ⟨n, hn, rfl, HO, HW, hsz⟩ := hrel
    by_cases hlt : n < 256
    · have hc : wr.cell? ⟨w.heap.size, n, none⟩ = some (.int .u64 (word S n : Int)) := by
        rw [HW.out.cell (p := ⟨w.heap.size, n, none⟩) (by simp)]
        exact HB0.out.cell n hlt
      have hdn : decide ((n : Int) < 256) = true := decide_eq_true (by omega)
      go_wp2
      go_loopw [3, 5, 6] (fun v x k W => ∃ j : Nat, j ≤ 64 ∧ k = .int .i64 j ∧ x = .int .u64 ((word S n / 2 ^ j : Nat) : Int) ∧ Hid (W.ownsRow (w.heap.size + 1) 3 1 v (upto S (64 * n + j)).length (nums (upto S (64 * n + j)))) ∧ Hid (Below (w.heap.size + 1) (w.alloc (.cells (cellsOf S) 24)) W) ∧ w.heap.size + 1 ≤ W.heap.size) (fun _ _ k _ => 64 - (intOf k).toNat)
      case atStart => exact ⟨0, by omega, rfl, by simp, HO.out, HW.out, hsz⟩
      case round =>
        obtain ⟨j, hj, rfl, rfl, HO1, HW1, hsz1⟩ := hrel
        have hX : word S n / 2 ^ j < 18446744073709551616 := Nat.lt_of_le_of_lt (Nat.div_le_self _ _) (word_lt S n)
        have HN : Hid (word S n / 2 ^ (j + 1) = word S n / 2 ^ j / 2) := by unfold Hid; rw [Nat.pow_succ, Nat.div_div_eq_div_mul]
        have HBt := hid (shift_bit S n j)
        have HEn := hid (shift_end S n j)
        have HLi := hid (shift_live (S := S) (i := n) (k := j))
        generalize word S n / 2 ^ j = X at hX HN HBt HEn HLi
        by_cases hpos : 0 < X
        · have hj64 := HLi.out hpos
          have HS := hid (upto_succ S (64 * n + j))
          have hul := upto_len S (64 * n + j)
          by_cases hb : X % 2 = 1
          · have hS := (HBt.out hj64).1 hb
            rw [hS, if_pos rfl] at HS
            obtain ⟨v', w', hrun, ho, hbl, hs'⟩ := pushn_run (w.heap.size + 1) wr u3 (upto S (64 * n + j)) (64 * n + j) (64 * (n : Int) + (j : Int)) (by omega) HO1.out hsz1 (by omega)
            rw [← HS.out] at ho
            have HRun := hid hrun
            have HO2 := hid ho
            have HW2 := hid (HW1.out.trans hbl)
            have hbI : ((X : Int) % 2 == 1) = true := by rw [beq_iff_eq]; omega
            clear hrun ho hbl hb HBt HEn HLi hul
            go_wp2_with (at_builtin; refine wpList_append_run rfl _ _ 61 rfl _ _ _ _ rfl rfl HRun.out ?_)
            go_roundw
            case rel =>
              have hrel : ∃ j1 : Nat, j1 ≤ 64 ∧ Value.int .i64 ((j : Int) + 1) = .int .i64 j1 ∧ Value.int .u64 ((X : Int) / 2) = .int .u64 ((word S n / 2 ^ j1 : Nat) : Int) ∧ Hid (w'.ownsRow (w.heap.size + 1) 3 1 v' (upto S (64 * n + j1)).length (nums (upto S (64 * n + j1)))) ∧ Hid (Below (w.heap.size + 1) (w.alloc (.cells (cellsOf S) 24)) w') ∧ w.heap.size + 1 ≤ w'.heap.size := ⟨j + 1, by omega, by go_num, by rw [HN.out]; simp, HO2.out, HW2.out, hs'⟩
              first | exact hrel | ((repeat apply Exists.intro); exact ⟨hrel, rfl⟩)
            case measure => simp [intOf]; omega
          · have hS : S (64 * n + j) = false := by
              cases e : S (64 * n + j)
              · rfl
              · exact absurd ((HBt.out hj64).2 e) hb
            rw [hS, if_neg (by decide), List.append_nil] at HS
            have HO2 := HO1
            rw [← HS.out] at HO2
            have hbI : ((X : Int) % 2 == 1) = false := by rw [beq_eq_false_iff_ne]; omega
            clear hb HBt HEn HLi hul
            go_wp2
            go_roundw
            case rel => exact ⟨j + 1, by omega, by go_num, by rw [HN.out]; simp, HO2.out, HW1.out, hsz1⟩
            case measure => simp [intOf]; omega
        · have h0 : X = 0 := by omega
          have HS : Hid (upto S (64 * (n + 1)) = upto S (64 * n + j)) := by
            have := upto_skip (S := S) (a := 64 * n + j) (n := 64 - j) (fun k hk => by rw [Nat.add_assoc]; exact HEn.out h0 (j + k) (by omega) (by omega))
            unfold Hid
            rw [← this, show 64 * n + j + (64 - j) = 64 * (n + 1) by omega]
          have HO2 := HO1
          rw [← HS.out] at HO2
          subst h0
          clear HBt HEn HLi
          go_wp2
          go_roundw
          case rel => exact ⟨n + 1, by omega, by go_num, HO2.out, HW1.out, hsz1⟩
          case measure => simp [intOf]; omega
    · have e : n = 256 := by omega
      subst e
      go_wp2
      go_ret
      exact ⟨⟨_, rfl, HO.out⟩, (below_alloc _ _).trans (HW.out.mono (by omega))⟩

end Go.Proofs.YtbfllifgmlkndaaGreatDoor

namespace Go.Proofs.YtbfllifgmlkndaaGreatDoor
namespace Slot

theorem upto_mem (S : Nat → Bool) (m n : Nat) : n ∈ upto S m ↔ n < m ∧ S n = true := by simp [upto]
theorem upto_sorted (S : Nat → Bool) (m : Nat) : (upto S m).Pairwise (· < ·) := by
  unfold upto
  exact List.Pairwise.filter _ List.pairwise_lt_range
theorem upto_at {S : Nat → Bool} {m j : Nat} (h : j < (upto S m).length) : (upto S m)[j] < m ∧ S (upto S m)[j] = true := (upto_mem S m _).1 (List.getElem_mem h)
theorem upto_lt {S : Nat → Bool} {m i j : Nat} (h : i < j) (hj : j < (upto S m).length) : (upto S m)[i]'(by omega) < (upto S m)[j] := List.pairwise_iff_getElem.1 (upto_sorted S m) i j (by omega) hj h
theorem upto_find {S : Nat → Bool} {m n : Nat} (h : n < m) (hS : S n = true) : ∃ j, ∃ hj : j < (upto S m).length, (upto S m)[j] = n := List.getElem_of_mem ((upto_mem S m n).2 ⟨h, hS⟩)
/-- from m on the next slot is the one at i -/
structure Gap (S : Nat → Bool) (m i : Nat) : Prop where
  here : ∀ h : i < (upto S top).length, m ≤ (upto S top)[i] ∧ ∀ n, m ≤ n → n < (upto S top)[i] → S n = false
  last : (upto S top).length ≤ i → ∀ n, m ≤ n → n < top → S n = false
theorem gap_first (S : Nat → Bool) : Gap S 0 0 := by
  constructor
  · intro h
    refine ⟨Nat.zero_le _, fun n _ hn => ?_⟩
    cases e : S n
    · rfl
    · obtain ⟨j, hj, rfl⟩ := upto_find (m := top) (by have := (upto_at h).1; omega) e
      rcases Nat.eq_zero_or_pos j with rfl | hp
      · omega
      · have := upto_lt hp hj; omega
  · intro h n _ hn
    cases e : S n
    · rfl
    · obtain ⟨j, hj, _⟩ := upto_find (m := top) hn e
      omega
theorem gap_next {S : Nat → Bool} {k : Nat} (hk : k < (upto S top).length) : Gap S ((upto S top)[k] + 1) (k + 1) := by
  constructor
  · intro h
    have h1 := upto_lt (S := S) (m := top) (Nat.lt_succ_self k) h
    refine ⟨h1, fun n a b => ?_⟩
    cases e : S n
    · rfl
    · obtain ⟨j, hj, rfl⟩ := upto_find (m := top) (by have := (upto_at h).1; omega) e
      rcases Nat.lt_trichotomy j (k + 1) with c | c | c
      · rcases Nat.eq_or_lt_of_le (Nat.le_of_lt_succ c) with c | c
        · subst c; omega
        · have := upto_lt c hk; omega
      · subst c; omega
      · have := upto_lt c hj; omega
  · intro h n a b
    cases e : S n
    · rfl
    · obtain ⟨j, hj, rfl⟩ := upto_find (m := top) b e
      rcases Nat.eq_or_lt_of_le (Nat.le_of_lt_succ (show j < k + 1 by omega)) with c | c
      · subst c; omega
      · have := upto_lt c hk; omega
/-- behind the run that ends at k no slot follows at once -/
theorem gap_end {S : Nat → Bool} {k : Nat} (hk : k < (upto S top).length) (h : k + 1 < (upto S top).length → ∀ h', (upto S top)[k + 1]'h' ≠ (upto S top)[k] + 1) : (upto S top)[k] + 1 < top → S ((upto S top)[k] + 1) = false := fun hlt => by
  have g := gap_next hk
  by_cases c : k + 1 < (upto S top).length
  · have h1 := g.here c
    exact h1.2 _ (Nat.le_refl _) (by have := h c c; omega)
  · exact g.last (by omega) _ (Nat.le_refl _) hlt

end Slot
end Go.Proofs.YtbfllifgmlkndaaGreatDoor

namespace Go.Proofs.YtbfllifgmlkndaaGreatDoor
open Go.RowKit
open Slot

theorem step_append_run {P : Program} {ops : Array Oper} {o : Oper} {a : Act} {w : World} {K : Act → World → Prop} {Q : Exit → Act → World → Prop} {E : Prop} (hw : Region.wanted o (yielded ops a.tmps) = true) (s x : Operand) (t : TypeId)
    (ho : o.op = .call { callee := .builtin .append, args := #[s, x], argTypes := #[t, t] }) (v u v' : Value) (w' : World) (hs : a.eval s = v) (hx : a.eval x = u)
    (hrun : (Builtin.append_ #[t, t] o.type #[v, u]).run P w = .ok v' w') (h : K (a.put o.dst v') w') : if Region.wanted o (yielded ops a.tmps) = true then o.wp P a w K Q else E := by
  rw [if_pos hw]
  unfold Oper.wp execOp
  simp only [ho, resolve, invoke, builtin, Sem.run_bind, Sem.run_pure, Result.andThen_ok, List.map_toArray, List.map_cons, List.map_nil, hs, hx, hrun]
  exact h
theorem nums_get (l : List Nat) (j : Nat) (h : j < l.length) : (nums l)[j]? = some (.int .i64 (l[j] : Int)) := by simp [nums, h]
theorem owns_nums {w : World} {B : Nat} {l : List Nat} {v : Value} (h : w.ownsRow B 3 1 v l.length (nums l)) (hne : l ≠ []) : ∃ g cap, v = .slice (some ⟨g, 0, none⟩) l.length cap ∧ g < w.heap.size ∧ ∀ j (hj : j < l.length), w.cell? ⟨g, j, none⟩ = some (.int .i64 (l[j] : Int)) := by
  rcases h.2 with ⟨_, h0⟩ | ⟨g, cap, cur, rfl, hg, hh, h1, h2, h3, h4⟩
  · exact absurd (List.length_eq_zero_iff.1 h0) hne
  · refine ⟨g, cap, rfl, (Array.getElem?_eq_some_iff.1 hh).1, fun j hj => ?_⟩
    have hu := nums_get l j hj
    rw [cell_of_row w g j _ _ _ hh]
    rw [← h4, List.getElem?_take] at hu
    split at hu
    · simpa using hu
    · cases hu

set_option maxHeartbeats 2000000 in
set_option maxRecDepth 100000 in
/-- ref Ranges -/
theorem rRanges_any (S : Nat → Bool) (w : World) :
    Calls Tryz.prog 25 #[.agg (cellsOf S)] w fun e w' => (∃ (l : List (Nat × Nat)) (v : Value) (B : Nat), e = .returned v ∧ Runs S 0 l ∧ w.heap.size ≤ B ∧ w'.ownsRow B 116 2 v l.length (flat l)) ∧ Below w.heap.size w w' := by
  have HB0 := hid (box_new w S)
  have HAl := hid fun W => rAll_any S W
  go_enter Tryz.func25, Tryz.ntmps25
  go_wp2_with (refine wpList_load_row rfl 24 _ rfl w.heap.size rfl 24 _ (0, 0) _ HB0.out Tryz.underlying24 rfl (infoBits _) (Hid.out ?_))
  refine hid ?_
  go_wp2_with fail
  refine (HAl.out _).mono ?_
  rintro e w1 ⟨⟨v, rfl, hown⟩, hb1⟩
  have HW1 := hid ((below_alloc w (.cells (cellsOf S) 24)).trans (hb1.mono (by simp)))
  have hw1 : w.heap.size < w1.heap.size := by have := hb1.size; simp at this; omega
  have hL : (upto S 16384).length ≤ 16384 := upto_len S 16384
  clear hb1
  by_cases hne : upto S 16384 = []
  · have hend : Runs S 0 [] := (gap_first S).last (by unfold top; rw [hne]; simp)
    have HEnd := hid hend
    rw [hne] at hown
    obtain ⟨a, cap, hv⟩ : ∃ a cap, v = .slice a 0 cap := by
      rcases hown.2 with ⟨rfl, _⟩ | ⟨g, cap, cur, rfl, _⟩
      · exact ⟨none, 0, rfl⟩
      · exact ⟨_, cap, rfl⟩
    subst hv
    clear hend hown hne
    go_wp2
    refine wp_loop_rounds 1 ?_
    rw [rounds_succ]
    go_wp2
    go_ret
    exact ⟨⟨[], _, w1.heap.size, rfl, HEnd.out, by omega, World.ownsRow_nil _ _ _ _⟩, HW1.out⟩
  · obtain ⟨g, cap, rfl, hg, hc⟩ := owns_nums hown hne
    have HC := hid hc
    have G0 := hid (gap_first S)
    obtain ⟨L, hLe⟩ : ∃ L, L = upto S 16384 := ⟨_, rfl⟩
    have HLe := hid hLe
    have HAt : Hid (∀ j (h : j < L.length), L[j] < 16384 ∧ S L[j] = true) := by subst hLe; exact fun j h => upto_at h
    have HGn : Hid (∀ k (h : k < L.length), Gap S (L[k] + 1) (k + 1)) := by subst hLe; exact fun k h => gap_next h
    have HGe : Hid (∀ k (h : k < L.length), (k + 1 < L.length → ∀ h', L[k + 1]'h' ≠ L[k] + 1) → L[k] + 1 < 16384 → S (L[k] + 1) = false) := by subst hLe; exact fun k h hh => gap_end h hh
    have HGh : Hid (∀ m n (h : n < L.length), Gap S m n → m ≤ L[n] ∧ ∀ x, m ≤ x → x < L[n] → S x = false) := by subst hLe; exact fun m n h gp => gp.here h
    rw [← hLe] at HC hL
    rw [← hLe]
    clear hc hne hown hLe HB0 HAl
    go_wp2
    go_loopw [3, 5, 6] (fun o i _ W => ∃ (n m : Nat) (acc : List (Nat × Nat)), n ≤ L.length ∧ i = .int .i64 n ∧ acc.length ≤ n ∧ m ≤ 16384 ∧ Hid (Gap S m n) ∧ Hid (∀ r, Runs S m r → Runs S 0 (acc ++ r)) ∧ Hid (W.ownsRow w1.heap.size 116 2 o acc.length (flat acc)) ∧ Hid (Below w1.heap.size w1 W) ∧ w1.heap.size ≤ W.heap.size) (fun _ i _ _ => L.length - (intOf i).toNat)
    case atStart => exact ⟨0, 0, [], Nat.zero_le _, rfl, by simp, by omega, G0.out, fun r h => h, (World.ownsRow_nil _ _ _ _ : World.ownsRow _ _ _ _ (.slice none 0 0) 0 []), Below.refl _ _, Nat.le_refl _⟩
    case round =>
      obtain ⟨n, m, acc, hn, rfl, hacc, hm, HG, HR, HO, HW, hsz⟩ := hrel
      by_cases hlt : n < L.length
      · have hdn : decide ((n : Int) < (L.length : Int)) = true := decide_eq_true (by omega)
        obtain ⟨X, hX⟩ : ∃ X, X = wr := ⟨_, rfl⟩
        subst hX
        have c0 : X.cell? ⟨g, n, none⟩ = some (.int .i64 (L[n] : Int)) := by rw [HW.out.cell (p := ⟨g, n, none⟩) hg]; exact HC.out n hlt
        go_wp2
        go_loopw [6] (fun v W => ∃ k : Nat, n ≤ k ∧ k < L.length ∧ v = .int .i64 k ∧ Hid (∀ h : k < L.length, L[n] ≤ L[k] ∧ ∀ x, L[n] ≤ x → x ≤ L[k] → S x = true) ∧ Hid (∃ d, W = X.drewN d)) (fun v _ => L.length - (intOf v).toNat)
        case atStart => exact ⟨n, Nat.le_refl _, hlt, rfl, fun h => ⟨Nat.le_refl _, fun x a b => by rw [show x = L[n] by omega]; exact (HAt.out n h).2⟩, ⟨0, rfl⟩⟩
        case round =>
          obtain ⟨k, hk1, hk2, rfl, HRunk, hd⟩ := hrel
          obtain ⟨d, rfl⟩ := hd.out
          obtain ⟨hnk, hrun⟩ : L[n] ≤ L[k] ∧ ∀ h : k < L.length, ∀ x, L[n] ≤ x → x ≤ L[k] → S x = true := ⟨(HRunk.out hk2).1, fun h => (HRunk.out h).2⟩
          have hrun : ∀ k' (h : k' < L.length), k' = k → ∀ x, L[n] ≤ x → x ≤ L[k'] → S x = true := fun k' h e => by subst e; exact (HRunk.out h).2
          have HRk := hid hrun
          have ck : X.cell? ⟨g, k, none⟩ = some (.int .i64 (L[k] : Int)) := by rw [HW.out.cell (p := ⟨g, k, none⟩) hg]; exact HC.out k hk2
          clear hd hrun
          by_cases hk3 : k + 1 < L.length
          · have ck1 : X.cell? ⟨g, k + 1, none⟩ = some (.int .i64 (L[k + 1] : Int)) := by rw [HW.out.cell (p := ⟨g, k + 1, none⟩) hg]; exact HC.out (k + 1) hk3
            have hdk : decide ((k : Int) + 1 < (L.length : Int)) = true := decide_eq_true (by omega)
            have hlk := (HAt.out k hk2).1
            have hlk1 := (HAt.out (k + 1) hk3).1
            by_cases heq : L[k + 1] = L[k] + 1
            · have hrel1 : ∀ h : k + 1 < L.length, L[n] ≤ L[k + 1] ∧ ∀ x, L[n] ≤ x → x ≤ L[k + 1] → S x = true := fun h => ⟨by omega, fun x a b => by
                rcases Nat.lt_or_ge x L[k + 1] with c | c
                · exact HRk.out k hk2 rfl x a (by omega)
                · rw [show x = L[k + 1] by omega]; exact (HAt.out (k + 1) h).2⟩
              have HR1 := hid hrel1
              obtain ⟨y, hy⟩ : ∃ y, y = L[k] := ⟨_, rfl⟩
              rw [heq, ← hy] at ck1
              rw [← hy] at ck hlk
              clear hrel1 heq hlk1 hy
              go_wp2_with fail
              go_quiet ((fail))
              go_wp2
              go_roundw
              case rel => exact ⟨k + 1, by omega, hk3, by go_num, HR1.out, ⟨_, rfl⟩⟩
              case measure => simp [intOf]; omega
            · have hbe : (((L[k + 1] : Nat) : Int) == ((L[k] : Nat) : Int) + 1) = false := by rw [beq_eq_false_iff_ne]; omega
              have HE := hid (HGe.out k hk2 (fun _ _ => heq))
              clear heq hlk1
              go_wp2_with fail
              go_quiet ((fail))
              go_wp2_with fail
              obtain ⟨Y, hY⟩ : ∃ Y, Y = (X.drewN d).drewN nq := ⟨_, rfl⟩
              rw [← hY]
              have HOY : Hid (Y.drew.ownsRow w1.heap.size 116 2 u3 acc.length (flat acc)) := by unfold Hid; rw [hY]; exact HO.out
              have HWY : Hid (Below w1.heap.size w1 Y.drew) := by unfold Hid; rw [hY]; exact Below.drew (Below.drewN (Below.drewN HW.out d) nq)
              have d0 : Y.cell? ⟨g, n, none⟩ = some (.int .i64 (L[n] : Int)) := by rw [hY]; exact c0
              have dk : Y.cell? ⟨g, k, none⟩ = some (.int .i64 (L[k] : Int)) := by rw [hY]; exact ck
              have hszY : w1.heap.size ≤ Y.heap.size := by rw [hY]; exact hsz
              have HRn : Hid (∀ r, Runs S (L[k] + 1) r → Runs S 0 ((acc ++ [(L[n], L[k])]) ++ r)) := fun r hr => by
                rw [List.append_assoc]
                obtain ⟨h1, h2⟩ := HGh.out m n hlt HG.out
                exact HR.out _ ⟨h1, hnk, (HAt.out k hk2).1, h2, HRk.out k hk2 rfl, HE.out, hr⟩
              have hLk := (HAt.out k hk2).1
              have HGk := hid (HGn.out k hk2)
              obtain ⟨v', w3, hr3, ho3, hg3⟩ := push_run w1.heap.size Y.drew u3 acc L[n] L[k] HOY.out hszY (by omega)
              have hb3 : Below w1.heap.size w1 w3 := (Below.alloc HWY.out hszY _).grown hg3 (by simp; omega) (fun q hq => (World.ownsRow.lt HOY.out q hq).1)
              have HW3 := hid hb3
              have hs3 : w1.heap.size ≤ w3.heap.size := hb3.size
              have HRun : Hid ((Builtin.append_ #[80, 80] 80 #[u3, .slice (some ⟨Y.heap.size, 0, none⟩) 1 1]).run Tryz.prog ((Y.alloc (.cells #[.int .i64 (L[n] : Int), .int .i64 (L[k] : Int)] 116)).drew) = .ok v' w3) := hr3
              have HO3 := hid ho3
              have hal : (acc ++ [(L[n], L[k])]).length ≤ k + 1 := by simp; omega
              obtain ⟨f, hf⟩ : ∃ f, f = L[n] := ⟨_, rfl⟩
              obtain ⟨t, ht⟩ : ∃ f, f = L[k] := ⟨_, rfl⟩
              rw [← hf] at d0
              rw [← ht] at dk
              rw [← hf, ← ht] at HRun HO3 HRn hal
              rw [← ht] at HGk hLk
              clear hr3 ho3 hg3 hb3 hf ht HE hY
              go_region_law (refine step_append_run rfl _ _ 80 rfl _ _ _ _ rfl rfl HRun.out ?_)
              all_goals go_wp2
              all_goals go_roundw
              all_goals first
                | (case rel => exact ⟨k + 1, t + 1, acc ++ [(f, t)], by omega, by go_num, hal, by omega, HGk.out, HRn.out, HO3.out, HW3.out, hs3⟩)
                | skip
              all_goals (simp [intOf]; omega)
          · have hdk : decide ((k : Int) + 1 < (L.length : Int)) = false := decide_eq_false (by omega)
            have HE := hid (HGe.out k hk2 (fun h => absurd h hk3))
            go_wp2_with fail
            go_quiet ((fail))
            go_wp2_with fail
            obtain ⟨Y, hY⟩ : ∃ Y, Y = (X.drewN d).drewN nq := ⟨_, rfl⟩
            rw [← hY]
            have HOY : Hid (Y.drew.ownsRow w1.heap.size 116 2 u3 acc.length (flat acc)) := by unfold Hid; rw [hY]; exact HO.out
            have HWY : Hid (Below w1.heap.size w1 Y.drew) := by unfold Hid; rw [hY]; exact Below.drew (Below.drewN (Below.drewN HW.out d) nq)
            have d0 : Y.cell? ⟨g, n, none⟩ = some (.int .i64 (L[n] : Int)) := by rw [hY]; exact c0
            have dk : Y.cell? ⟨g, k, none⟩ = some (.int .i64 (L[k] : Int)) := by rw [hY]; exact ck
            have hszY : w1.heap.size ≤ Y.heap.size := by rw [hY]; exact hsz
            have HRn : Hid (∀ r, Runs S (L[k] + 1) r → Runs S 0 ((acc ++ [(L[n], L[k])]) ++ r)) := fun r hr => by
              rw [List.append_assoc]
              obtain ⟨h1, h2⟩ := HGh.out m n hlt HG.out
              exact HR.out _ ⟨h1, hnk, (HAt.out k hk2).1, h2, HRk.out k hk2 rfl, HE.out, hr⟩
            have hLk := (HAt.out k hk2).1
            have HGk := hid (HGn.out k hk2)
            obtain ⟨v', w3, hr3, ho3, hg3⟩ := push_run w1.heap.size Y.drew u3 acc L[n] L[k] HOY.out hszY (by omega)
            have hb3 : Below w1.heap.size w1 w3 := (Below.alloc HWY.out hszY _).grown hg3 (by simp; omega) (fun q hq => (World.ownsRow.lt HOY.out q hq).1)
            have HW3 := hid hb3
            have hs3 : w1.heap.size ≤ w3.heap.size := hb3.size
            have HRun : Hid ((Builtin.append_ #[80, 80] 80 #[u3, .slice (some ⟨Y.heap.size, 0, none⟩) 1 1]).run Tryz.prog ((Y.alloc (.cells #[.int .i64 (L[n] : Int), .int .i64 (L[k] : Int)] 116)).drew) = .ok v' w3) := hr3
            have HO3 := hid ho3
            have hal : (acc ++ [(L[n], L[k])]).length ≤ k + 1 := by simp; omega
            obtain ⟨f, hf⟩ : ∃ f, f = L[n] := ⟨_, rfl⟩
            obtain ⟨t, ht⟩ : ∃ f, f = L[k] := ⟨_, rfl⟩
            rw [← hf] at d0
            rw [← ht] at dk
            rw [← hf, ← ht] at HRun HO3 HRn hal
            rw [← ht] at HGk hLk
            clear hr3 ho3 hg3 hb3 hf ht HE hY
            go_region_law (refine step_append_run rfl _ _ 80 rfl _ _ _ _ rfl rfl HRun.out ?_)
            all_goals go_wp2
            all_goals go_roundw
            all_goals first
              | (case rel => exact ⟨k + 1, t + 1, acc ++ [(f, t)], by omega, by go_num, hal, by omega, HGk.out, HRn.out, HO3.out, HW3.out, hs3⟩)
              | skip
            all_goals (simp [intOf]; omega)
      · have e : n = L.length := by omega
        have hend : Runs S m [] := HG.out.last (by unfold top; rw [← HLe.out]; omega)
        have HEnd := hid (HR.out [] hend)
        rw [List.append_nil] at HEnd
        go_wp2
        go_ret
        exact ⟨⟨acc, _, w1.heap.size, rfl, HEnd.out, by omega, HO.out⟩, HW1.out.trans (HW.out.mono (by omega))⟩

end Go.Proofs.YtbfllifgmlkndaaGreatDoor

namespace Go.Proofs.YtbfllifgmlkndaaGreatDoor
open Go.RowKit
open Crc

theorem start16 (d : BitVec 16) (x : BitVec 8) : bits BinOp.xor IntKind.u16 (d.toNat : Int) ((x.toNat : Int) * 256) = ((d ^^^ (x.setWidth 16 * 256#16)).toNat : Int) := by
  have h := x.isLt
  have e : ((x.toNat : Int) * 256) = ((x.setWidth 16 * 256#16).toNat : Int) := by
    rw [BitVec.toNat_mul, BitVec.toNat_setWidth]
    simp
    omega
  rw [e, xor16]
theorem dbl (e : BitVec 16) : IntKind.u16.wrap ((e.toNat : Int) * 2) = ((e * 2#16).toNat : Int) := by
  rw [IntKind.wrap_u16, BitVec.toNat_mul]
  simp
theorem dbl_hi (e : BitVec 16) (h : 32768 ≤ e.toNat) : ((zstep e).toNat : Int) = bits BinOp.xor IntKind.u16 (IntKind.u16.wrap ((e.toNat : Int) * 2)) 4129 := by
  rw [dbl, zstep, if_pos h]
  exact (xor16 _ 4129#16).symm
theorem dbl_lo (e : BitVec 16) (h : ¬ 32768 ≤ e.toNat) : ((zstep e).toNat : Int) = (e.toNat : Int) * 2 := by
  have := e.isLt
  rw [zstep, if_neg h, ← dbl, IntKind.wrap_u16]
  omega

set_option maxHeartbeats 400000 in
theorem rmore_some (c : BitVec 16) (b off cap : Nat) (l : List (BitVec 8)) (w : World) (hl : l.length ≤ 9223372036854775807)
    (hc : ∀ j, j < l.length → w.cell? ⟨b, off + j, none⟩ = some (.int .u8 ((l.getD j 0#8).toNat : Int))) :
    Calls Tryz.prog 80 #[.int .u16 (c.toNat : Int), .slice (some ⟨b, off, none⟩) l.length cap] w fun e w' => e = .returned (.int .u16 ((more c l).toNat : Int)) ∧ w' = w := by
  have HC := hid hc
  clear hc
  go_enter Tryz.func80, Tryz.ntmps80
  go_wp2
  go_loop [0, 5, 6] (fun d i _ => ∃ k : Nat, k ≤ l.length ∧ i = .int .i64 k ∧ d = .int .u16 ((more c (l.take k)).toNat : Int)) (fun _ i _ => l.length - (intOf i).toNat)
  case atStart => exact ⟨0, Nat.zero_le _, rfl, rfl⟩
  case round =>
    obtain ⟨k, hk, rfl, rfl⟩ := hrel
    by_cases hlt : k < l.length
    · have hcell := HC.out k hlt
      have HS := hid (more_snoc c l k hlt)
      generalize hD : more c (l.take k) = D at HS ⊢
      generalize hX : l.getD k 0#8 = X at HS hcell
      have hb := X.isLt
      have hx0 : (0 : Int) ≤ (X.toNat : Int) := by omega
      have hx1 : (X.toNat : Int) ≤ 255 := by omega
      generalize hx : (X.toNat : Int) = x at hcell hx0 hx1
      have HX := hid hx
      clear hD hX hb hx
      go_wp2
      go_loop [0, 6] (fun d i => ∃ (m : Nat) (E : BitVec 16), m ≤ 8 ∧ i = .int .i64 m ∧ d = .int .u16 (E.toNat : Int) ∧ zsteps (8 - m) E = Crc.step D X) (fun _ i => 8 - (intOf i).toNat)
      case atStart => exact ⟨0, D ^^^ (X.setWidth 16 * 256#16), by omega, rfl, by rw [← HX.out, start16], doc_step D X⟩
      case round =>
        obtain ⟨m, E, hm, rfl, rfl, hz⟩ := hrel
        have HZ := hid hz
        clear hz
        have hE := E.isLt
        by_cases hm8 : m < 8
        · by_cases hhi : 32768 ≤ (E.toNat : Int)
          · have HE := hid (dbl_hi E (by omega))
            generalize he : (E.toNat : Int) = e at HE hhi
            have he1 : e ≤ 65535 := by omega
            clear hE he
            go_wp2
            go_round
            case rel => exact ⟨m + 1, zstep E, by omega, by go_num, by rw [HE.out], by rw [← HZ.out, show 8 - m = (8 - (m + 1)) + 1 by omega]; rfl⟩
            case measure => simp [intOf]; omega
          · have HE := hid (dbl_lo E (by omega))
            generalize he : (E.toNat : Int) = e at HE hhi
            have he0 : 0 ≤ e := by omega
            clear hE he
            go_wp2
            go_round
            case rel => exact ⟨m + 1, zstep E, by omega, by go_num, by rw [HE.out], by rw [← HZ.out, show 8 - m = (8 - (m + 1)) + 1 by omega]; rfl⟩
            case measure => simp [intOf]; omega
        · have hm' : m = 8 := by omega
          subst hm'
          have HZ' : Hid (E = Crc.step D X) := HZ.out
          clear hE
          go_wp2
          go_round
          case rel => exact ⟨k + 1, by omega, by go_num, by rw [HS.out, ← HZ'.out]⟩
          case measure => simp [intOf]; omega
    · go_wp2
      go_ret
      exact ⟨ret_int (by rw [List.take_of_length_le (by omega)]), rfl⟩

theorem rmore_none (c : BitVec 16) (a : Option Addr) (cap : Nat) (w : World) :
    Calls Tryz.prog 80 #[.int .u16 (c.toNat : Int), .slice a 0 cap] w fun e w' => e = .returned (.int .u16 (c.toNat : Int)) ∧ w' = w := by
  go_enter Tryz.func80, Tryz.ntmps80
  go_wp2
  refine wp_loop_rounds 1 ?_
  rw [rounds_succ]
  go_wp2
  go_ret
  exact ⟨rfl, rfl⟩
theorem rmore_any (c : BitVec 16) (a : Option Addr) (cap : Nat) (l : List (BitVec 8)) (w : World) (hr : Row w a l) :
    Calls Tryz.prog 80 #[.int .u16 (c.toNat : Int), .slice a l.length cap] w fun e w' => e = .returned (.int .u16 ((more c l).toNat : Int)) ∧ w' = w := by
  by_cases h : l = []
  · subst h
    exact rmore_none c a cap w
  · obtain ⟨b, off, rfl, hc⟩ := hr.2 h
    exact rmore_some c b off cap l w hr.1 hc
theorem rsum_any (a : Option Addr) (cap : Nat) (l : List (BitVec 8)) (w : World) (hr : Row w a l) :
    Calls Tryz.prog 65 #[.slice a l.length cap] w fun e w' => e = .returned (.int .u16 ((more 0#16 l).toNat : Int)) ∧ w' = w := by
  have HR := hid hr
  clear hr
  go_enter Tryz.func65, Tryz.ntmps65
  go_wp2_with (go_at_call 80; refine (rmore_any 0#16 _ _ l _ HR.out).mono ?_; rintro e w' ⟨rfl, rfl⟩)
  go_ret
  exact ⟨rfl, rfl⟩

end Go.Proofs.YtbfllifgmlkndaaGreatDoor

namespace Go.Proofs.YtbfllifgmlkndaaGreatDoor

theorem ne_empty {a : Array Value} {n : Nat} (h : a.size = n + 1) : a ≠ #[] := by
  intro e
  rw [e] at h
  cases h

end Go.Proofs.YtbfllifgmlkndaaGreatDoor

namespace Go.Proofs.YtbfllifgmlkndaaGreatDoor
open Go.RowKit

set_option maxRecDepth 1000000
theorem len2 (a b : List Value) {n m k : Nat} (h1 : a.length = n) (h2 : b.length = m) (h : n + m = k) : (List.append a b).length = k := by
  show (a ++ b).length = k
  rw [List.length_append]; omega
theorem end2 (a b E : List Value) (h : ∃ c, b = c ++ E) : ∃ c, List.append a b = c ++ E := by
  obtain ⟨c, rfl⟩ := h
  exact ⟨a ++ c, by show a ++ (c ++ E) = _; rw [List.append_assoc]⟩
theorem zview : ∃ Z : List Value, Tryz.t109.zero = some (.agg Z.toArray) ∧ Z.length = 16450 ∧ ∃ c, Z = c ++ List.replicate 65 (.int .u64 0) := by
  refine ⟨_, rfl, ?_, ?_⟩
  · refine len2 _ _ (n := 8225) (m := 8225) ?_ ?_ (by rfl)
    all_goals refine len2 _ _ (n := 4112) (m := 4113) ?_ ?_ (by rfl)
    case refine_1.refine_1 | refine_2.refine_1 =>
      refine len2 _ _ (n := 2056) (m := 2056) ?_ ?_ (by rfl)
      all_goals refine len2 _ _ (n := 1028) (m := 1028) ?_ ?_ (by rfl)
      all_goals refine len2 _ _ (n := 514) (m := 514) ?_ ?_ (by rfl)
      all_goals kernel_rfl
    all_goals
      refine len2 _ _ (n := 2056) (m := 2057) ?_ ?_ (by rfl)
    case refine_1.refine_2.refine_1 | refine_2.refine_2.refine_1 =>
      refine len2 _ _ (n := 1028) (m := 1028) ?_ ?_ (by rfl)
      all_goals refine len2 _ _ (n := 514) (m := 514) ?_ ?_ (by rfl)
      all_goals kernel_rfl
    all_goals
      refine len2 _ _ (n := 1028) (m := 1029) ?_ ?_ (by rfl)
      · kernel_rfl
      · kernel_rfl
  · iterate 8 refine end2 _ _ _ ?_
    exact ⟨[], by kernel_rfl⟩
/-- the zero value of a view -/
theorem zview_any : ∃ Z : Array Value, Z.size = 16450 ∧ (∀ n, n < 65 → Z[16385 + n]? = some (.int .u64 0)) ∧ ¬ Z = #[] ∧ ∀ w : World, (zeroValue 109).run Tryz.prog w = .ok (.agg Z) w := by
  obtain ⟨Z, h, h1, c, h2⟩ := zview
  have hs : Z.toArray.size = 16450 := by rw [List.size_toArray, h1]
  refine ⟨Z.toArray, hs, fun n hn => ?_, ne_empty (n := 16449) hs, fun w => ?_⟩
  · have hc : c.length = 16385 := by
      have := congrArg List.length h2
      rw [h1, List.length_append, List.length_replicate] at this
      omega
    rw [List.getElem?_toArray, h2, List.getElem?_append_right (by omega), hc, show 16385 + n - 16385 = n by omega, List.getElem?_replicate, if_pos hn]
  · unfold zeroValue
    rw [Sem.run_bind, Tryz.typeInfo109]
    simp only [Result.andThen_ok, h]
    rfl

end Go.Proofs.YtbfllifgmlkndaaGreatDoor

namespace Go.Proofs.YtbfllifgmlkndaaGreatDoor
namespace Slot

/-- a digit -/
def isDig (c : UInt8) : Bool := decide (48 ≤ c.toNat ∧ c.toNat ≤ 57)
/-- digits read on, with what is left -/
def numGo : Nat → List UInt8 → Nat × List UInt8
  | n, [] => (n, [])
  | n, c :: l => if isDig c = true ∧ n < 100000 then numGo (n * 10 + (c.toNat - 48)) l else (n, c :: l)
theorem numGo_dec (m : Nat) : ∀ r, m < 100000 → numGo 0 (dec m ++ r) = numGo m r := by
  induction m using Nat.strongRecOn with
  | ind m ih =>
    intro r hm
    by_cases h10 : m < 10
    · have e : dec m = [UInt8.ofNat (48 + m)] := Lib.decDigits_one h10
      have hc : (UInt8.ofNat (48 + m)).toNat = 48 + m := by rw [UInt8.toNat_ofNat']; omega
      rw [e]
      simp only [List.singleton_append, numGo]
      rw [if_pos ⟨by unfold isDig; rw [hc]; simp; omega, by omega⟩, hc]
      congr 1; omega
    · have e : dec m = dec (m / 10) ++ [UInt8.ofNat (48 + m % 10)] := by unfold dec; rw [Lib.decDigits, dif_neg h10]
      have hc : (UInt8.ofNat (48 + m % 10)).toNat = 48 + m % 10 := by rw [UInt8.toNat_ofNat']; omega
      rw [e, List.append_assoc, ih (m / 10) (by omega) _ (by omega)]
      simp only [List.singleton_append, numGo]
      rw [if_pos ⟨by unfold isDig; rw [hc]; simp; omega, by omega⟩, hc]
      congr 1; omega
/-- no digit is next -/
def Ends (r : List UInt8) : Prop := ∀ c r', r = c :: r' → isDig c = false
theorem numGo_ends {m : Nat} {r : List UInt8} (h : Ends r) : numGo m r = (m, r) := by
  cases r with
  | nil => rfl
  | cons c r => simp [numGo, h c r rfl]
theorem numGo_num {m : Nat} {r : List UInt8} (hm : m < 100000) (h : Ends r) : numGo 0 (dec m ++ r) = (m, r) := by
  rw [numGo_dec m r hm, numGo_ends h]
/-- what stands behind a piece -/
def tailOf (l : List (Nat × Nat)) : List UInt8 := if l = [] then [] else 32 :: print l
theorem tail_ends (l : List (Nat × Nat)) : Ends (tailOf l) := fun c r h => by
  unfold tailOf at h
  split at h
  · cases h
  · injection h with h1 _; subst h1; rfl
theorem print_tail (p : Nat × Nat) (l : List (Nat × Nat)) : print (p :: l) = piece p ++ tailOf l := by
  unfold tailOf
  split
  · rename_i h; subst h; simp [print]
  · rename_i h; exact print_cons p l h
theorem tail_drop (l : List (Nat × Nat)) : (tailOf l).drop 1 = print l := by
  unfold tailOf
  split
  · rename_i h; subst h; rfl
  · rfl
/-- where a scan of print L stands at i, l being told -/
def Good (s : List UInt8) (i : Nat) (l L : List (Nat × Nat)) : Prop :=
  (∃ L2, L = l ++ L2 ∧ s.drop i = print L2 ∧ (i = 0 ∨ s[i - 1]? = some 32 ∨ L2 = [])) ∨
  (∃ L1 f t L2, L = L1 ++ (f, t) :: L2 ∧ l = L1 ++ [(f, f)] ∧ 0 < i ∧ s[i - 1]? = some 45 ∧ s.drop i = dec t ++ tailOf L2)
theorem good_first (L : List (Nat × Nat)) : Good (print L) 0 [] L := .inl ⟨L, rfl, rfl, .inl rfl⟩
theorem good_last {s : List UInt8} {i : Nat} {l L : List (Nat × Nat)} (h : Good s i l L) (hi : s.length ≤ i) : l = L := by
  have hd : s.drop i = [] := List.drop_eq_nil_of_le hi
  rcases h with ⟨L2, h1, h2, _⟩ | ⟨L1, f, t, L2, _, _, _, _, h2⟩
  · rw [hd] at h2
    have : L2 = [] := Classical.byContradiction fun e => print_ne e h2.symm
    rw [h1, this, List.append_nil]
  · rw [hd] at h2
    exact absurd (List.append_eq_nil_iff.1 h2.symm).1 (dec_ne t)
/-- the last range's end is put -/
def setLast (l : List (Nat × Nat)) (n : Nat) : List (Nat × Nat) := match l.reverse with
  | [] => []
  | p :: r => r.reverse ++ [(p.1, n)]
theorem setLast_snoc (l : List (Nat × Nat)) (f t n : Nat) : setLast (l ++ [(f, t)]) n = l ++ [(f, n)] := by
  simp [setLast]
theorem drop_next {s : List UInt8} {k : Nat} {c : UInt8} {r : List UInt8} (h : s.drop k = c :: r) : s[k]? = some c := by
  have := congrArg (·[0]?) h
  simpa using this
theorem drop_more {s r : List UInt8} {k : Nat} (h : s.drop k = r) : s.drop (k + 1) = r.drop 1 := by
  rw [← h, List.drop_drop]
/-- one number read: which ranges there are, and where it goes on -/
theorem good_step {s : List UInt8} {i n k : Nat} {l L : List (Nat × Nat)} (h : Good s i l L) (hi : i < s.length) (hL : Chain 0 L) (hk : numGo 0 (s.drop i) = (n, s.drop k)) :
    i < k ∧ ((0 < i ∧ s[i - 1]? = some 45 ∧ l ≠ []) → Good s (k + 1) (setLast l n) L) ∧ (¬ (0 < i ∧ s[i - 1]? = some 45 ∧ l ≠ []) → Good s (k + 1) (l ++ [(n, n)]) L) := by
  have hv : ∀ p ∈ L, p.1 ≤ p.2 ∧ p.2 < top := (chain_runs hL).valid
  have less : ∀ m r, s.drop i = dec m ++ r → s.drop k = r → i < k := fun m r h1 h2 => by
    have e := congrArg List.length h1
    have e2 := congrArg List.length h2
    have := List.length_pos_iff.2 (dec_ne m)
    simp at e e2
    omega
  have hne : s.drop i ≠ [] := fun e => by
    have := congrArg List.length e
    simp at this; omega
  rcases h with ⟨L2, h1, h2, h3⟩ | ⟨L1, f, t, L2, h1, rfl, h3, h4, h2⟩
  · cases L2 with
    | nil => exact absurd h2 hne
    | cons p L3 =>
      obtain ⟨f, t⟩ := p
      have hp := hv (f, t) (by rw [h1]; simp)
      simp only at hp
      unfold top at hp
      rw [print_tail] at h2
      have hnot : ¬ (0 < i ∧ s[i - 1]? = some 45 ∧ l ≠ []) := fun ⟨a, b, _⟩ => by
        rcases h3 with h3 | h3 | h3
        · omega
        · rw [h3] at b; cases b
        · cases h3
      by_cases hft : f < t
      · have e : piece (f, t) ++ tailOf L3 = dec f ++ (45 :: (dec t ++ tailOf L3)) := by simp [piece, hft]
        have hn := numGo_num (m := f) (r := 45 :: (dec t ++ tailOf L3)) (by omega) (fun c r hc => by injection hc with hc _; subst hc; rfl)
        rw [h2, e, hn] at hk
        injection hk with hk1 hk2
        subst hk1
        refine ⟨less f _ (h2.trans e) hk2.symm, fun hx => absurd hx hnot, fun _ => .inr ⟨l, f, t, L3, h1, rfl, Nat.succ_pos _, drop_next hk2.symm, ?_⟩⟩
        rw [drop_more hk2.symm]; rfl
      · have eft : f = t := by omega
        subst eft
        have e : piece (f, f) ++ tailOf L3 = dec f ++ tailOf L3 := by simp [piece]
        have hn := numGo_num (m := f) (r := tailOf L3) (by omega) (tail_ends L3)
        rw [h2, e, hn] at hk
        injection hk with hk1 hk2
        subst hk1
        refine ⟨less f _ (h2.trans e) hk2.symm, fun hx => absurd hx hnot, fun _ => .inl ⟨L3, by rw [h1]; simp, ?_, .inr ?_⟩⟩
        · rw [drop_more hk2.symm, tail_drop]
        · by_cases h : L3 = []
          · exact .inr h
          · exact .inl (drop_next (r := print L3) (by show s.drop k = _; rw [← hk2]; unfold tailOf; rw [if_neg h]))
  · have hp := hv (f, t) (by rw [h1]; simp)
    simp only at hp
    unfold top at hp
    have hn := numGo_num (m := t) (r := tailOf L2) (by omega) (tail_ends L2)
    rw [h2, hn] at hk
    injection hk with hk1 hk2
    subst hk1
    refine ⟨less t _ h2 hk2.symm, fun _ => ?_, fun hx => absurd ⟨h3, h4, by simp⟩ hx⟩
    rw [setLast_snoc]
    refine .inl ⟨L2, by rw [h1]; simp, ?_, .inr ?_⟩
    · rw [drop_more hk2.symm, tail_drop]
    · by_cases h : L2 = []
      · exact .inr h
      · exact .inl (drop_next (r := print L2) (by show s.drop k = _; rw [← hk2]; unfold tailOf; rw [if_neg h]))

end Slot
end Go.Proofs.YtbfllifgmlkndaaGreatDoor

namespace Go.Proofs.YtbfllifgmlkndaaGreatDoor
open Slot

/-- a packet that node n tells of itself: o says whose each slot is (64: nobody's) -/
structure GoodP (o : Nat → Nat) (n : Nat) (p : Pk) : Prop where
  kind : p.kind = 1 ∨ p.kind = 2
  frm : p.frm = (n : Int)
  of_ : p.of_ = 0
  epoch : p.epoch = n + 1
  cur1 : p.epoch ≤ p.cur
  cur2 : p.cur ≤ 64
  cl : ∀ s, s < 16384 → p.cl s = (o s == n)
/-- what node i may see -/
structure Inv (o : Nat → Nat) (i : Nat) (v : Vw) : Prop where
  self : v.self = i
  lt : i < 64
  mine : v.ep i = i + 1
  ep : ∀ m, v.ep m = 0 ∨ v.ep m = m + 1
  cur : v.cur ≤ 64
  epc : ∀ m, v.ep m ≤ v.cur
  own : ∀ s, s < 16384 → v.own s = 64 ∨ v.own s = o s
  has : ∀ s, s < 16384 → o s = i → v.own s = i
  le : ∀ s, v.own s ≤ 64
theorem Inv.ok {o : Nat → Nat} {i : Nat} {v : Vw} (h : Inv o i v) : v.Ok 0 :=
  ⟨by rw [h.self]; exact h.lt, h.le, h.epc, by have := h.cur; have e : big = 4611686018427387904 := rfl; omega⟩
theorem Inv.cl {o : Nat → Nat} {i : Nat} {v : Vw} (h : Inv o i v) {s : Nat} (hs : s < 16384) : v.cl i s = (o s == i) := by
  unfold Vw.cl
  by_cases e : o s = i
  · rw [h.has s hs e, e]
  · have hn : ¬ v.own s = i := fun c => by
      rcases h.own s hs with c2 | c2
      · have := h.lt; omega
      · exact e (c2.symm.trans c)
    rw [beq_eq_false_iff_ne.2 hn, beq_eq_false_iff_ne.2 e]
theorem Inv.tell {o : Nat → Nat} {i : Nat} {v : Vw} (h : Inv o i v) {k : Int} (hk : k = 1 ∨ k = 2) : GoodP o i (tellV v k) := by
  refine ⟨hk, by show (v.self : Int) = _; rw [h.self], rfl, by show v.ep v.self = _; rw [h.self, h.mine], h.epc _, h.cur, fun s hs => ?_⟩
  show v.cl v.self s = _
  rw [h.self]
  exact h.cl hs
theorem GoodP.right {o : Nat → Nat} {n : Nat} {p : Pk} (h : GoodP o n p) (hn : n < 64) : rightP p = true := by
  refine rightP_iff.2 ⟨?_, ?_, ?_, ?_, h.cur1⟩
  all_goals have hk := h.kind
  all_goals have hf := h.frm
  all_goals have ho := h.of_
  · rcases hk with e | e <;> omega
  · rcases hk with e | e <;> omega
  · omega
  · rcases hk with e | e <;> simp [e, ho]
theorem GoodP.seen {o : Nat → Nat} {n i : Nat} {p : Pk} {v : Vw} (h : GoodP o n p) (hi : Inv o i v) (hn : n < 64) (hne : n ≠ i) : seen v p = true := by
  have e : big = 4611686018427387904 := rfl
  have h2 := h.cur2
  have h3 : p.frm ≠ (v.self : Int) := by rw [h.frm, hi.self]; omega
  have h4 : ¬ p.kind = 3 := by rcases h.kind with e | e <;> omega
  unfold Go.Proofs.YtbfllifgmlkndaaGreatDoor.seen
  rw [h.right hn, decide_eq_true (by omega : p.cur ≤ big), decide_eq_true h3, decide_eq_false h4]
  rfl
theorem GoodP.ofN {o : Nat → Nat} {n : Nat} {p : Pk} (h : GoodP o n p) : ofN p = n := by
  unfold Go.Proofs.YtbfllifgmlkndaaGreatDoor.ofN
  rw [if_neg (by rcases h.kind with e | e <;> omega), h.frm, Int.toNat_natCast]
/-- what a node sees behind a packet that another one told of itself -/
theorem Inv.take {o : Nat → Nat} {n i : Nat} {p : Pk} {v : Vw} (hi : Inv o i v) (h : GoodP o n p) (hn : n < 64) (hne : n ≠ i) :
    Inv o i (takeV v p) ∧ (∀ s, s < 16384 → o s = n → (takeV v p).own s = n) ∧ (∀ s, s < 16384 → v.own s ≠ 64 → (takeV v p).own s = v.own s) ∧ answV v p = if p.kind = 1 then [tellV (takeV v p) 2] else [] := by
  have hse := h.seen hi hn hne
  have hof := h.ofN
  have hle : (take1 v p).ep (ofN p) ≤ p.epoch := by
    rw [hof, h.epoch]
    show v.ep n ≤ n + 1
    rcases hi.ep n with e | e <;> omega
  have e2 : take2 v p = claimV (take1 v p) n p := by
    unfold take2
    rw [if_pos hle, hof]
  have hep : ∀ m, (take2 v p).ep m = if m = n then n + 1 else v.ep m := fun m => by
    rw [e2, ← h.epoch]
    rfl
  have hself : (take2 v p).self = i := (take2_self v p).trans hi.self
  have e3 : take3 v p = take2 v p := by
    unfold take3
    rw [if_neg]
    rintro ⟨-, c, -⟩
    rw [hself, hep, if_neg (fun c => hne c.symm), hi.mine, h.epoch] at c
    omega
  have eT : takeV v p = take2 v p := by
    unfold takeV
    rw [if_pos hse, e3]
  have hown : ∀ s, (take2 v p).own s = if p.cl s then (if v.own s = 64 ∨ v.own s = n ∨ (take1 v p).ep (v.own s) < p.epoch then n else v.own s) else (if v.own s = n then 64 else v.own s) := fun s => by rw [e2]; rfl
  have hown2 : ∀ s, s < 16384 → (take2 v p).own s = if o s = n then n else v.own s := fun s hs => by
    rw [hown s, h.cl s hs]
    by_cases e : o s = n
    · rw [beq_iff_eq.2 e, if_pos rfl, if_pos e]
      rcases hi.own s hs with c | c
      · rw [if_pos (.inl c)]
      · rw [if_pos (.inr (.inl (c.trans e)))]
    · rw [beq_eq_false_iff_ne.2 e, if_neg (by decide), if_neg e, if_neg]
      intro c
      rcases hi.own s hs with c2 | c2
      · omega
      · exact e (c2.symm.trans c)
  have hcur : (take2 v p).cur = max v.cur p.cur := take2_cur v p
  have hInv : Inv o i (take2 v p) := by
    refine ⟨hself, hi.lt, ?_, fun m => ?_, ?_, fun m => ?_, fun s hs => ?_, fun s hs c => ?_, fun s => ?_⟩
    · rw [hep, if_neg (fun c => hne c.symm)]; exact hi.mine
    · rw [hep]
      by_cases e : m = n
      · rw [if_pos e, e]; exact .inr rfl
      · rw [if_neg e]; exact hi.ep m
    · rw [hcur]; have := hi.cur; have := h.cur2; omega
    · rw [hep, hcur]
      have h1 := hi.epc m
      have h2 := h.cur1
      rw [h.epoch] at h2
      split <;> omega
    · rw [hown2 s hs]
      by_cases e : o s = n
      · rw [if_pos e, e]; exact .inr rfl
      · rw [if_neg e]; exact hi.own s hs
    · rw [hown2 s hs, if_neg (fun e => hne (e.symm.trans c))]
      exact hi.has s hs c
    · rw [hown s]
      have := hi.le s
      split <;> split <;> omega
  rw [eT]
  refine ⟨hInv, fun s hs e => by rw [hown2 s hs, if_pos e], fun s hs c => ?_, ?_⟩
  · rw [hown2 s hs]
    by_cases e : o s = n
    · rw [if_pos e]
      rcases hi.own s hs with c2 | c2
      · exact absurd c2 c
      · rw [c2, e]
    · rw [if_neg e]
  · have hb : ∀ (f k : Nat), k + f ≤ top → beatV (take2 v p) p f k = none := fun f => by
      induction f with
      | zero => exact fun _ _ => rfl
      | succ f ih =>
        intro k hk
        unfold beatV
        have hw : worse (take2 v p) p k = false := by
          unfold worse
          have hk' : k < 16384 := by unfold top at hk; omega
          rw [h.cl k hk', hown2 k hk', h.frm, Int.toNat_natCast]
          by_cases e : o k = n
          · rw [if_pos e]; simp
          · rw [beq_eq_false_iff_ne.2 e]; simp
        rw [hw]
        exact ih (k + 1) (by omega)
    unfold answV
    rw [if_pos ⟨hse, by rcases h.kind with e | e <;> omega⟩, eT]
    unfold outV
    rw [hb top 0 (by omega)]
    rcases h.kind with e | e
    · rw [if_pos (.inl e), if_pos e]; rfl
    · rw [if_neg (by omega), if_neg (by omega)]; rfl
theorem Inv.new {o : Nat → Nat} {i : Nat} {S : Nat → Bool} (hi : i < 63) (hS : ∀ s, s < 16384 → S s = (o s == i)) : Inv o i (newV i S (i + 1)) := by
  refine ⟨rfl, by omega, ?_, fun m => ?_, ?_, fun m => ?_, fun s hs => ?_, fun s hs c => ?_, fun s => ?_⟩
  · show (if i = i then i + 1 else 0) = _
    rw [if_pos rfl]
  · show (if m = i then i + 1 else 0) = 0 ∨ (if m = i then i + 1 else 0) = m + 1
    split <;> omega
  · show i + 1 ≤ 64
    omega
  · show (if m = i then i + 1 else 0) ≤ i + 1
    split <;> omega
  · show (if S s then i else 64) = 64 ∨ (if S s then i else 64) = o s
    rw [hS s hs]
    by_cases e : o s = i
    · rw [beq_iff_eq.2 e, if_pos rfl]; exact .inr e.symm
    · rw [beq_eq_false_iff_ne.2 e]; exact .inl (if_neg (by decide))
  · show (if S s then i else 64) = i
    rw [hS s hs, beq_iff_eq.2 c, if_pos rfl]
  · show (if S s then i else 64) ≤ 64
    split <;> omega

end Go.Proofs.YtbfllifgmlkndaaGreatDoor
