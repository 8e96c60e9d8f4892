/- RefAll, Gaps, RefRanges. -/
import Derived.Test.YtdicjnkbmlamgabM12
import Derived.Deep.RegionLaw
namespace Go.Proofs.Ytdicjnkbmlamgab
open Go.RowKit
open Slot

/-- the slots below m -/
def upto (S : Nat → Bool) (m : Nat) : List Nat := (List.range m).filter S
theorem upto_succ (S : Nat → Bool) (m : Nat) : upto S (m + 1) = upto S m ++ if S m then [m] else [] := by
  unfold upto
  rw [List.range_succ, List.filter_append]
  cases h : S m <;> simp [h]
theorem upto_len (S : Nat → Bool) (m : Nat) : (upto S m).length ≤ m := by
  unfold upto
  have := List.length_filter_le S (List.range m)
  simpa using this
theorem upto_skip {S : Nat → Bool} {a n : Nat} (h : ∀ k, k < n → S (a + k) = false) : upto S (a + n) = upto S a := by
  induction n with
  | zero => rfl
  | succ n ih => rw [← Nat.add_assoc, upto_succ, ih (fun k hk => h k (by omega)), h n (by omega)]; simp
/-- numbers, cell by cell -/
def nums (l : List Nat) : List Value := l.map fun (n : Nat) => Value.int .i64 (n : Int)
theorem nums_len (l : List Nat) : (nums l).length = l.length := by simp [nums]
theorem infoInt : (Try.prog.info? 3).map (fun i => (i.zero, i.size, i.bytes)) = some (some (.int .i64 0), 1, 8) := by kernel_rfl
theorem pushn_run (B : Nat) (w : World) (v : Value) (l : List Nat) (n : Nat) (z : Int) (hz : z = (n : Int)) (hown : w.ownsRow B 3 1 v l.length (nums l)) (hB : B ≤ w.heap.size) (hlen : l.length ≤ 16384) :
    ∃ v' w', (Builtin.append_ #[59, 59] 59 #[v, .slice (some ⟨w.heap.size, 0, none⟩) 1 1]).run Try.prog (w.alloc (.cells #[.int .i64 z] 3)) = .ok v' w' ∧ w'.ownsRow B 3 1 v' (l ++ [n]).length (nums (l ++ [n])) ∧ Below B w w' ∧ B ≤ w'.heap.size := by
  subst hz
  obtain ⟨i0, hi, hz0, hz1, hz2⟩ := info_parts infoInt
  have hown' := owns_below hown (below_alloc w (.cells #[.int .i64 (n : Int)] 3))
  obtain ⟨v', w', hrun, ho, hgr, _⟩ := run_append_own (P := Try.prog) (w.alloc (.cells #[.int .i64 (n : Int)] 3)) B 59 59 3 i0 (.int .i64 0) 1 8 Try.underlying59 hi hz0 hz1 hz2 rfl (by decide) _ _ _ hown' ⟨w.heap.size, 0, none⟩ 1 1 [.int .i64 (n : Int)] rfl
    (fun j u hj => by
      rw [Go.WideShapes.add_plain, cell_of_row _ _ _ _ _ _ (heap_alloc_new w _)]
      simpa using hj)
    (fun u hu => by rw [List.mem_singleton.1 hu]; rfl) (by unfold maxLen; omega) (by omega) (by simp; omega)
  refine ⟨v', w', hrun, ?_, ?_, ?_⟩
  · rw [show nums (l ++ [n]) = nums l ++ [.int .i64 (n : Int)] by simp [nums], List.length_append]
    exact ho
  · exact ((Below.refl B w).alloc hB _).grown hgr (by simp; omega) (fun k hk => (World.ownsRow.lt hown k hk).1)
  · have := hgr.size; simp at this; omega
theorem shift_bit (S : Nat → Bool) (i k : Nat) (hk : k < 64) : (word S i / 2 ^ k % 2 = 1) ↔ S (64 * i + k) = true := by
  have h := word_bit S (64 * i + k)
  rw [show (64 * i + k) / 64 = i by omega, show (64 * i + k) % 64 = k by omega, Nat.testBit_eq_decide_div_mod_eq] at h
  rw [← h]; simp
theorem shift_end (S : Nat → Bool) (i k : Nat) (h : word S i / 2 ^ k = 0) : ∀ j, k ≤ j → j < 64 → S (64 * i + j) = false := fun j h1 h2 => by
  have h3 : word S i < 2 ^ k := by
    have := Nat.lt_of_div_eq_zero (Nat.pow_pos (by decide)) h
    exact this
  have hb := word_bit S (64 * i + j)
  rw [show (64 * i + j) / 64 = i by omega, show (64 * i + j) % 64 = j by omega] at hb
  rw [← hb]
  exact Nat.testBit_lt_two_pow (Nat.lt_of_lt_of_le h3 (Nat.pow_le_pow_right (by decide) h1))
theorem shift_live {S : Nat → Bool} {i k : Nat} (h : 0 < word S i / 2 ^ k) : k < 64 := by
  by_cases hk : k < 64
  · exact hk
  · exfalso
    have h1 := word_lt S i
    have h2 : 2 ^ 64 ≤ 2 ^ k := Nat.pow_le_pow_right (by decide) (by omega)
    have : word S i / 2 ^ k = 0 := Nat.div_eq_of_lt (by omega)
    omega

set_option maxHeartbeats 2000000 in
set_option maxRecDepth 100000 in
/-- ref All -/
theorem rAll_any (S : Nat → Bool) (w : World) :
    Calls Try.prog 18 #[.agg (cellsOf S)] w fun e w' => (∃ v, e = .returned v ∧ w'.ownsRow (w.heap.size + 1) 3 1 v (upto S 16384).length (nums (upto S 16384))) ∧ Below w.heap.size w w' := by
  have HB0 := hid (box_new w S)
  go_enter Try.func18, Try.ntmps18
  go_wp2
  go_loopw [3, 4, 5, 6] (fun v i _ _ W => ∃ n : Nat, n ≤ 256 ∧ i = .int .i64 n ∧ Hid (W.ownsRow (w.heap.size + 1) 3 1 v (upto S (64 * n)).length (nums (upto S (64 * n)))) ∧ Hid (Below (w.heap.size + 1) (w.alloc (.cells (cellsOf S) 24)) W) ∧ w.heap.size + 1 ≤ W.heap.size) (fun _ i _ _ _ => 256 - (intOf i).toNat)
  case atStart => exact ⟨0, Nat.zero_le _, rfl, (World.ownsRow_nil _ _ _ _ : World.ownsRow _ _ _ _ (.slice none 0 0) 0 []), Below.refl _ _, by simp⟩
  case round =>
    obtain ⟨n, hn, rfl, HO, HW, hsz⟩ := hrel
    by_cases hlt : n < 256
    · have hc : wr.cell? ⟨w.heap.size, n, none⟩ = some (.int .u64 (word S n : Int)) := by
        rw [HW.out.cell (p := ⟨w.heap.size, n, none⟩) (by simp)]
        exact HB0.out.cell n hlt
      have hdn : decide ((n : Int) < 256) = true := decide_eq_true (by omega)
      go_wp2
      go_loopw [3, 5, 6] (fun v x k W => ∃ j : Nat, j ≤ 64 ∧ k = .int .i64 j ∧ x = .int .u64 ((word S n / 2 ^ j : Nat) : Int) ∧ Hid (W.ownsRow (w.heap.size + 1) 3 1 v (upto S (64 * n + j)).length (nums (upto S (64 * n + j)))) ∧ Hid (Below (w.heap.size + 1) (w.alloc (.cells (cellsOf S) 24)) W) ∧ w.heap.size + 1 ≤ W.heap.size) (fun _ _ k _ => 64 - (intOf k).toNat)
      case atStart => exact ⟨0, by omega, rfl, by simp, HO.out, HW.out, hsz⟩
      case round =>
        obtain ⟨j, hj, rfl, rfl, HO1, HW1, hsz1⟩ := hrel
        have hX : word S n / 2 ^ j < 18446744073709551616 := Nat.lt_of_le_of_lt (Nat.div_le_self _ _) (word_lt S n)
        have HN : Hid (word S n / 2 ^ (j + 1) = word S n / 2 ^ j / 2) := by unfold Hid; rw [Nat.pow_succ, Nat.div_div_eq_div_mul]
        have HBt := hid (shift_bit S n j)
        have HEn := hid (shift_end S n j)
        have HLi := hid (shift_live (S := S) (i := n) (k := j))
        generalize word S n / 2 ^ j = X at hX HN HBt HEn HLi
        by_cases hpos : 0 < X
        · have hj64 := HLi.out hpos
          have HS := hid (upto_succ S (64 * n + j))
          have hul := upto_len S (64 * n + j)
          by_cases hb : X % 2 = 1
          · have hS := (HBt.out hj64).1 hb
            rw [hS, if_pos rfl] at HS
            obtain ⟨v', w', hrun, ho, hbl, hs'⟩ := pushn_run (w.heap.size + 1) wr u3 (upto S (64 * n + j)) (64 * n + j) (64 * (n : Int) + (j : Int)) (by omega) HO1.out hsz1 (by omega)
            rw [← HS.out] at ho
            have HRun := hid hrun
            have HO2 := hid ho
            have HW2 := hid (HW1.out.trans hbl)
            have hbI : ((X : Int) % 2 == 1) = true := by rw [beq_iff_eq]; omega
            clear hrun ho hbl hb HBt HEn HLi hul
            go_wp2_with (at_builtin; refine wpList_append_run rfl _ _ 59 rfl _ _ _ _ rfl rfl HRun.out ?_)
            go_roundw
            case rel =>
              have hrel : ∃ j1 : Nat, j1 ≤ 64 ∧ Value.int .i64 ((j : Int) + 1) = .int .i64 j1 ∧ Value.int .u64 ((X : Int) / 2) = .int .u64 ((word S n / 2 ^ j1 : Nat) : Int) ∧ Hid (w'.ownsRow (w.heap.size + 1) 3 1 v' (upto S (64 * n + j1)).length (nums (upto S (64 * n + j1)))) ∧ Hid (Below (w.heap.size + 1) (w.alloc (.cells (cellsOf S) 24)) w') ∧ w.heap.size + 1 ≤ w'.heap.size := ⟨j + 1, by omega, by go_num, by rw [HN.out]; simp, HO2.out, HW2.out, hs'⟩
              first | exact hrel | ((repeat apply Exists.intro); exact ⟨hrel, rfl⟩)
            case measure => simp [intOf]; omega
          · have hS : S (64 * n + j) = false := by
              cases e : S (64 * n + j)
              · rfl
              · exact absurd ((HBt.out hj64).2 e) hb
            rw [hS, if_neg (by decide), List.append_nil] at HS
            have HO2 := HO1
            rw [← HS.out] at HO2
            have hbI : ((X : Int) % 2 == 1) = false := by rw [beq_eq_false_iff_ne]; omega
            clear hb HBt HEn HLi hul
            go_wp2
            go_roundw
            case rel => exact ⟨j + 1, by omega, by go_num, by rw [HN.out]; simp, HO2.out, HW1.out, hsz1⟩
            case measure => simp [intOf]; omega
        · have h0 : X = 0 := by omega
          have HS : Hid (upto S (64 * (n + 1)) = upto S (64 * n + j)) := by
            have := upto_skip (S := S) (a := 64 * n + j) (n := 64 - j) (fun k hk => by rw [Nat.add_assoc]; exact HEn.out h0 (j + k) (by omega) (by omega))
            unfold Hid
            rw [← this, show 64 * n + j + (64 - j) = 64 * (n + 1) by omega]
          have HO2 := HO1
          rw [← HS.out] at HO2
          subst h0
          clear HBt HEn HLi
          go_wp2
          go_roundw
          case rel => exact ⟨n + 1, by omega, by go_num, HO2.out, HW1.out, hsz1⟩
          case measure => simp [intOf]; omega
    · have e : n = 256 := by omega
      subst e
      go_wp2
      go_ret
      exact ⟨⟨_, rfl, HO.out⟩, (below_alloc _ _).trans (HW.out.mono (by omega))⟩

end Go.Proofs.Ytdicjnkbmlamgab

namespace Go.Proofs.Ytdicjnkbmlamgab
namespace Slot

theorem upto_mem (S : Nat → Bool) (m n : Nat) : n ∈ upto S m ↔ n < m ∧ S n = true := by simp [upto]
theorem upto_sorted (S : Nat → Bool) (m : Nat) : (upto S m).Pairwise (· < ·) := by
  unfold upto
  exact List.Pairwise.filter _ List.pairwise_lt_range
theorem upto_at {S : Nat → Bool} {m j : Nat} (h : j < (upto S m).length) : (upto S m)[j] < m ∧ S (upto S m)[j] = true := (upto_mem S m _).1 (List.getElem_mem h)
theorem upto_lt {S : Nat → Bool} {m i j : Nat} (h : i < j) (hj : j < (upto S m).length) : (upto S m)[i]'(by omega) < (upto S m)[j] := List.pairwise_iff_getElem.1 (upto_sorted S m) i j (by omega) hj h
theorem upto_find {S : Nat → Bool} {m n : Nat} (h : n < m) (hS : S n = true) : ∃ j, ∃ hj : j < (upto S m).length, (upto S m)[j] = n := List.getElem_of_mem ((upto_mem S m n).2 ⟨h, hS⟩)
/-- from m on the next slot is the one at i -/
structure Gap (S : Nat → Bool) (m i : Nat) : Prop where
  here : ∀ h : i < (upto S top).length, m ≤ (upto S top)[i] ∧ ∀ n, m ≤ n → n < (upto S top)[i] → S n = false
  last : (upto S top).length ≤ i → ∀ n, m ≤ n → n < top → S n = false
theorem gap_first (S : Nat → Bool) : Gap S 0 0 := by
  constructor
  · intro h
    refine ⟨Nat.zero_le _, fun n _ hn => ?_⟩
    cases e : S n
    · rfl
    · obtain ⟨j, hj, rfl⟩ := upto_find (m := top) (by have := (upto_at h).1; omega) e
      rcases Nat.eq_zero_or_pos j with rfl | hp
      · omega
      · have := upto_lt hp hj; omega
  · intro h n _ hn
    cases e : S n
    · rfl
    · obtain ⟨j, hj, _⟩ := upto_find (m := top) hn e
      omega
theorem gap_next {S : Nat → Bool} {k : Nat} (hk : k < (upto S top).length) : Gap S ((upto S top)[k] + 1) (k + 1) := by
  constructor
  · intro h
    have h1 := upto_lt (S := S) (m := top) (Nat.lt_succ_self k) h
    refine ⟨h1, fun n a b => ?_⟩
    cases e : S n
    · rfl
    · obtain ⟨j, hj, rfl⟩ := upto_find (m := top) (by have := (upto_at h).1; omega) e
      rcases Nat.lt_trichotomy j (k + 1) with c | c | c
      · rcases Nat.eq_or_lt_of_le (Nat.le_of_lt_succ c) with c | c
        · subst c; omega
        · have := upto_lt c hk; omega
      · subst c; omega
      · have := upto_lt c hj; omega
  · intro h n a b
    cases e : S n
    · rfl
    · obtain ⟨j, hj, rfl⟩ := upto_find (m := top) b e
      rcases Nat.eq_or_lt_of_le (Nat.le_of_lt_succ (show j < k + 1 by omega)) with c | c
      · subst c; omega
      · have := upto_lt c hk; omega
/-- behind the run that ends at k no slot follows at once -/
theorem gap_end {S : Nat → Bool} {k : Nat} (hk : k < (upto S top).length) (h : k + 1 < (upto S top).length → ∀ h', (upto S top)[k + 1]'h' ≠ (upto S top)[k] + 1) : (upto S top)[k] + 1 < top → S ((upto S top)[k] + 1) = false := fun hlt => by
  have g := gap_next hk
  by_cases c : k + 1 < (upto S top).length
  · have h1 := g.here c
    exact h1.2 _ (Nat.le_refl _) (by have := h c c; omega)
  · exact g.last (by omega) _ (Nat.le_refl _) hlt

end Slot
end Go.Proofs.Ytdicjnkbmlamgab

namespace Go.Proofs.Ytdicjnkbmlamgab
open Go.RowKit
open Slot

theorem step_append_run {P : Program} {ops : Array Oper} {o : Oper} {a : Act} {w : World} {K : Act → World → Prop} {Q : Exit → Act → World → Prop} {E : Prop} (hw : Region.wanted o (yielded ops a.tmps) = true) (s x : Operand) (t : TypeId)
    (ho : o.op = .call { callee := .builtin .append, args := #[s, x], argTypes := #[t, t] }) (v u v' : Value) (w' : World) (hs : a.eval s = v) (hx : a.eval x = u)
    (hrun : (Builtin.append_ #[t, t] o.type #[v, u]).run P w = .ok v' w') (h : K (a.put o.dst v') w') : if Region.wanted o (yielded ops a.tmps) = true then o.wp P a w K Q else E := by
  rw [if_pos hw]
  unfold Oper.wp execOp
  simp only [ho, resolve, invoke, builtin, Sem.run_bind, Sem.run_pure, Result.andThen_ok, List.map_toArray, List.map_cons, List.map_nil, hs, hx, hrun]
  exact h
theorem nums_get (l : List Nat) (j : Nat) (h : j < l.length) : (nums l)[j]? = some (.int .i64 (l[j] : Int)) := by simp [nums, h]
theorem owns_nums {w : World} {B : Nat} {l : List Nat} {v : Value} (h : w.ownsRow B 3 1 v l.length (nums l)) (hne : l ≠ []) : ∃ g cap, v = .slice (some ⟨g, 0, none⟩) l.length cap ∧ g < w.heap.size ∧ ∀ j (hj : j < l.length), w.cell? ⟨g, j, none⟩ = some (.int .i64 (l[j] : Int)) := by
  rcases h.2 with ⟨_, h0⟩ | ⟨g, cap, cur, rfl, hg, hh, h1, h2, h3, h4⟩
  · exact absurd (List.length_eq_zero_iff.1 h0) hne
  · refine ⟨g, cap, rfl, (Array.getElem?_eq_some_iff.1 hh).1, fun j hj => ?_⟩
    have hu := nums_get l j hj
    rw [cell_of_row w g j _ _ _ hh]
    rw [← h4, List.getElem?_take] at hu
    split at hu
    · simpa using hu
    · cases hu

set_option maxHeartbeats 2000000 in
set_option maxRecDepth 100000 in
/-- ref Ranges -/
theorem rRanges_any (S : Nat → Bool) (w : World) :
    Calls Try.prog 17 #[.agg (cellsOf S)] w fun e w' => (∃ (l : List (Nat × Nat)) (v : Value) (B : Nat), e = .returned v ∧ Runs S 0 l ∧ w.heap.size ≤ B ∧ w'.ownsRow B 81 2 v l.length (flat l)) ∧ Below w.heap.size w w' := by
  have HB0 := hid (box_new w S)
  have HAl := hid fun W => rAll_any S W
  go_enter Try.func17, Try.ntmps17
  go_wp2_with (refine wpList_load_row rfl 24 _ rfl w.heap.size rfl 24 _ (0, 0) _ HB0.out Try.underlying24 rfl (infoBits _) (Hid.out ?_))
  refine hid ?_
  go_wp2_with fail
  refine (HAl.out _).mono ?_
  rintro e w1 ⟨⟨v, rfl, hown⟩, hb1⟩
  have HW1 := hid ((below_alloc w (.cells (cellsOf S) 24)).trans (hb1.mono (by simp)))
  have hw1 : w.heap.size < w1.heap.size := by have := hb1.size; simp at this; omega
  have hL : (upto S 16384).length ≤ 16384 := upto_len S 16384
  clear hb1
  by_cases hne : upto S 16384 = []
  · have hend : Runs S 0 [] := (gap_first S).last (by unfold top; rw [hne]; simp)
    have HEnd := hid hend
    rw [hne] at hown
    obtain ⟨a, cap, hv⟩ : ∃ a cap, v = .slice a 0 cap := by
      rcases hown.2 with ⟨rfl, _⟩ | ⟨g, cap, cur, rfl, _⟩
      · exact ⟨none, 0, rfl⟩
      · exact ⟨_, cap, rfl⟩
    subst hv
    clear hend hown hne
    go_wp2
    refine wp_loop_rounds 1 ?_
    rw [rounds_succ]
    go_wp2
    go_ret
    exact ⟨⟨[], _, w1.heap.size, rfl, HEnd.out, by omega, World.ownsRow_nil _ _ _ _⟩, HW1.out⟩
  · obtain ⟨g, cap, rfl, hg, hc⟩ := owns_nums hown hne
    have HC := hid hc
    have G0 := hid (gap_first S)
    obtain ⟨L, hLe⟩ : ∃ L, L = upto S 16384 := ⟨_, rfl⟩
    have HLe := hid hLe
    have HAt : Hid (∀ j (h : j < L.length), L[j] < 16384 ∧ S L[j] = true) := by subst hLe; exact fun j h => upto_at h
    have HGn : Hid (∀ k (h : k < L.length), Gap S (L[k] + 1) (k + 1)) := by subst hLe; exact fun k h => gap_next h
    have HGe : Hid (∀ k (h : k < L.length), (k + 1 < L.length → ∀ h', L[k + 1]'h' ≠ L[k] + 1) → L[k] + 1 < 16384 → S (L[k] + 1) = false) := by subst hLe; exact fun k h hh => gap_end h hh
    have HGh : Hid (∀ m n (h : n < L.length), Gap S m n → m ≤ L[n] ∧ ∀ x, m ≤ x → x < L[n] → S x = false) := by subst hLe; exact fun m n h gp => gp.here h
    rw [← hLe] at HC hL
    rw [← hLe]
    clear hc hne hown hLe HB0 HAl
    go_wp2
    go_loopw [3, 5, 6] (fun o i _ W => ∃ (n m : Nat) (acc : List (Nat × Nat)), n ≤ L.length ∧ i = .int .i64 n ∧ acc.length ≤ n ∧ m ≤ 16384 ∧ Hid (Gap S m n) ∧ Hid (∀ r, Runs S m r → Runs S 0 (acc ++ r)) ∧ Hid (W.ownsRow w1.heap.size 81 2 o acc.length (flat acc)) ∧ Hid (Below w1.heap.size w1 W) ∧ w1.heap.size ≤ W.heap.size) (fun _ i _ _ => L.length - (intOf i).toNat)
    case atStart => exact ⟨0, 0, [], Nat.zero_le _, rfl, by simp, by omega, G0.out, fun r h => h, (World.ownsRow_nil _ _ _ _ : World.ownsRow _ _ _ _ (.slice none 0 0) 0 []), Below.refl _ _, Nat.le_refl _⟩
    case round =>
      obtain ⟨n, m, acc, hn, rfl, hacc, hm, HG, HR, HO, HW, hsz⟩ := hrel
      by_cases hlt : n < L.length
      · have hdn : decide ((n : Int) < (L.length : Int)) = true := decide_eq_true (by omega)
        obtain ⟨X, hX⟩ : ∃ X, X = wr := ⟨_, rfl⟩
        subst hX
        have c0 : X.cell? ⟨g, n, none⟩ = some (.int .i64 (L[n] : Int)) := by rw [HW.out.cell (p := ⟨g, n, none⟩) hg]; exact HC.out n hlt
        go_wp2
        go_loopw [6] (fun v W => ∃ k : Nat, n ≤ k ∧ k < L.length ∧ v = .int .i64 k ∧ Hid (∀ h : k < L.length, L[n] ≤ L[k] ∧ ∀ x, L[n] ≤ x → x ≤ L[k] → S x = true) ∧ Hid (∃ d, W = X.drewN d)) (fun v _ => L.length - (intOf v).toNat)
        case atStart => exact ⟨n, Nat.le_refl _, hlt, rfl, fun h => ⟨Nat.le_refl _, fun x a b => by rw [show x = L[n] by omega]; exact (HAt.out n h).2⟩, ⟨0, rfl⟩⟩
        case round =>
          obtain ⟨k, hk1, hk2, rfl, HRunk, hd⟩ := hrel
          obtain ⟨d, rfl⟩ := hd.out
          obtain ⟨hnk, hrun⟩ : L[n] ≤ L[k] ∧ ∀ h : k < L.length, ∀ x, L[n] ≤ x → x ≤ L[k] → S x = true := ⟨(HRunk.out hk2).1, fun h => (HRunk.out h).2⟩
          have hrun : ∀ k' (h : k' < L.length), k' = k → ∀ x, L[n] ≤ x → x ≤ L[k'] → S x = true := fun k' h e => by subst e; exact (HRunk.out h).2
          have HRk := hid hrun
          have ck : X.cell? ⟨g, k, none⟩ = some (.int .i64 (L[k] : Int)) := by rw [HW.out.cell (p := ⟨g, k, none⟩) hg]; exact HC.out k hk2
          clear hd hrun
          by_cases hk3 : k + 1 < L.length
          · have ck1 : X.cell? ⟨g, k + 1, none⟩ = some (.int .i64 (L[k + 1] : Int)) := by rw [HW.out.cell (p := ⟨g, k + 1, none⟩) hg]; exact HC.out (k + 1) hk3
            have hdk : decide ((k : Int) + 1 < (L.length : Int)) = true := decide_eq_true (by omega)
            have hlk := (HAt.out k hk2).1
            have hlk1 := (HAt.out (k + 1) hk3).1
            by_cases heq : L[k + 1] = L[k] + 1
            · have hrel1 : ∀ h : k + 1 < L.length, L[n] ≤ L[k + 1] ∧ ∀ x, L[n] ≤ x → x ≤ L[k + 1] → S x = true := fun h => ⟨by omega, fun x a b => by
                rcases Nat.lt_or_ge x L[k + 1] with c | c
                · exact HRk.out k hk2 rfl x a (by omega)
                · rw [show x = L[k + 1] by omega]; exact (HAt.out (k + 1) h).2⟩
              have HR1 := hid hrel1
              obtain ⟨y, hy⟩ : ∃ y, y = L[k] := ⟨_, rfl⟩
              rw [heq, ← hy] at ck1
              rw [← hy] at ck hlk
              clear hrel1 heq hlk1 hy
              go_wp2_with fail
              go_quiet ((fail))
              go_wp2
              go_roundw
              case rel => exact ⟨k + 1, by omega, hk3, by go_num, HR1.out, ⟨_, rfl⟩⟩
              case measure => simp [intOf]; omega
            · have hbe : (((L[k + 1] : Nat) : Int) == ((L[k] : Nat) : Int) + 1) = false := by rw [beq_eq_false_iff_ne]; omega
              have HE := hid (HGe.out k hk2 (fun _ _ => heq))
              clear heq hlk1
              go_wp2_with fail
              go_quiet ((fail))
              go_wp2_with fail
              obtain ⟨Y, hY⟩ : ∃ Y, Y = (X.drewN d).drewN nq := ⟨_, rfl⟩
              rw [← hY]
              have HOY : Hid (Y.drew.ownsRow w1.heap.size 81 2 u3 acc.length (flat acc)) := by unfold Hid; rw [hY]; exact HO.out
              have HWY : Hid (Below w1.heap.size w1 Y.drew) := by unfold Hid; rw [hY]; exact Below.drew (Below.drewN (Below.drewN HW.out d) nq)
              have d0 : Y.cell? ⟨g, n, none⟩ = some (.int .i64 (L[n] : Int)) := by rw [hY]; exact c0
              have dk : Y.cell? ⟨g, k, none⟩ = some (.int .i64 (L[k] : Int)) := by rw [hY]; exact ck
              have hszY : w1.heap.size ≤ Y.heap.size := by rw [hY]; exact hsz
              have HRn : Hid (∀ r, Runs S (L[k] + 1) r → Runs S 0 ((acc ++ [(L[n], L[k])]) ++ r)) := fun r hr => by
                rw [List.append_assoc]
                obtain ⟨h1, h2⟩ := HGh.out m n hlt HG.out
                exact HR.out _ ⟨h1, hnk, (HAt.out k hk2).1, h2, HRk.out k hk2 rfl, HE.out, hr⟩
              have hLk := (HAt.out k hk2).1
              have HGk := hid (HGn.out k hk2)
              obtain ⟨v', w3, hr3, ho3, hg3⟩ := push_run w1.heap.size Y.drew u3 acc L[n] L[k] HOY.out hszY (by omega)
              have hb3 : Below w1.heap.size w1 w3 := (Below.alloc HWY.out hszY _).grown hg3 (by simp; omega) (fun q hq => (World.ownsRow.lt HOY.out q hq).1)
              have HW3 := hid hb3
              have hs3 : w1.heap.size ≤ w3.heap.size := hb3.size
              have HRun : Hid ((Builtin.append_ #[57, 57] 57 #[u3, .slice (some ⟨Y.heap.size, 0, none⟩) 1 1]).run Try.prog ((Y.alloc (.cells #[.int .i64 (L[n] : Int), .int .i64 (L[k] : Int)] 81)).drew) = .ok v' w3) := hr3
              have HO3 := hid ho3
              have hal : (acc ++ [(L[n], L[k])]).length ≤ k + 1 := by simp; omega
              obtain ⟨f, hf⟩ : ∃ f, f = L[n] := ⟨_, rfl⟩
              obtain ⟨t, ht⟩ : ∃ f, f = L[k] := ⟨_, rfl⟩
              rw [← hf] at d0
              rw [← ht] at dk
              rw [← hf, ← ht] at HRun HO3 HRn hal
              rw [← ht] at HGk hLk
              clear hr3 ho3 hg3 hb3 hf ht HE hY
              go_region_law (refine step_append_run rfl _ _ 57 rfl _ _ _ _ rfl rfl HRun.out ?_)
              all_goals go_wp2
              all_goals go_roundw
              all_goals first
                | (case rel => exact ⟨k + 1, t + 1, acc ++ [(f, t)], by omega, by go_num, hal, by omega, HGk.out, HRn.out, HO3.out, HW3.out, hs3⟩)
                | skip
              all_goals (simp [intOf]; omega)
          · have hdk : decide ((k : Int) + 1 < (L.length : Int)) = false := decide_eq_false (by omega)
            have HE := hid (HGe.out k hk2 (fun h => absurd h hk3))
            go_wp2_with fail
            go_quiet ((fail))
            go_wp2_with fail
            obtain ⟨Y, hY⟩ : ∃ Y, Y = (X.drewN d).drewN nq := ⟨_, rfl⟩
            rw [← hY]
            have HOY : Hid (Y.drew.ownsRow w1.heap.size 81 2 u3 acc.length (flat acc)) := by unfold Hid; rw [hY]; exact HO.out
            have HWY : Hid (Below w1.heap.size w1 Y.drew) := by unfold Hid; rw [hY]; exact Below.drew (Below.drewN (Below.drewN HW.out d) nq)
            have d0 : Y.cell? ⟨g, n, none⟩ = some (.int .i64 (L[n] : Int)) := by rw [hY]; exact c0
            have dk : Y.cell? ⟨g, k, none⟩ = some (.int .i64 (L[k] : Int)) := by rw [hY]; exact ck
            have hszY : w1.heap.size ≤ Y.heap.size := by rw [hY]; exact hsz
            have HRn : Hid (∀ r, Runs S (L[k] + 1) r → Runs S 0 ((acc ++ [(L[n], L[k])]) ++ r)) := fun r hr => by
              rw [List.append_assoc]
              obtain ⟨h1, h2⟩ := HGh.out m n hlt HG.out
              exact HR.out _ ⟨h1, hnk, (HAt.out k hk2).1, h2, HRk.out k hk2 rfl, HE.out, hr⟩
            have hLk := (HAt.out k hk2).1
            have HGk := hid (HGn.out k hk2)
            obtain ⟨v', w3, hr3, ho3, hg3⟩ := push_run w1.heap.size Y.drew u3 acc L[n] L[k] HOY.out hszY (by omega)
            have hb3 : Below w1.heap.size w1 w3 := (Below.alloc HWY.out hszY _).grown hg3 (by simp; omega) (fun q hq => (World.ownsRow.lt HOY.out q hq).1)
            have HW3 := hid hb3
            have hs3 : w1.heap.size ≤ w3.heap.size := hb3.size
            have HRun : Hid ((Builtin.append_ #[57, 57] 57 #[u3, .slice (some ⟨Y.heap.size, 0, none⟩) 1 1]).run Try.prog ((Y.alloc (.cells #[.int .i64 (L[n] : Int), .int .i64 (L[k] : Int)] 81)).drew) = .ok v' w3) := hr3
            have HO3 := hid ho3
            have hal : (acc ++ [(L[n], L[k])]).length ≤ k + 1 := by simp; omega
            obtain ⟨f, hf⟩ : ∃ f, f = L[n] := ⟨_, rfl⟩
            obtain ⟨t, ht⟩ : ∃ f, f = L[k] := ⟨_, rfl⟩
            rw [← hf] at d0
            rw [← ht] at dk
            rw [← hf, ← ht] at HRun HO3 HRn hal
            rw [← ht] at HGk hLk
            clear hr3 ho3 hg3 hb3 hf ht HE hY
            go_region_law (refine step_append_run rfl _ _ 57 rfl _ _ _ _ rfl rfl HRun.out ?_)
            all_goals go_wp2
            all_goals go_roundw
            all_goals first
              | (case rel => exact ⟨k + 1, t + 1, acc ++ [(f, t)], by omega, by go_num, hal, by omega, HGk.out, HRn.out, HO3.out, HW3.out, hs3⟩)
              | skip
            all_goals (simp [intOf]; omega)
      · have e : n = L.length := by omega
        have hend : Runs S m [] := HG.out.last (by unfold top; rw [← HLe.out]; omega)
        have HEnd := hid (HR.out [] hend)
        rw [List.append_nil] at HEnd
        go_wp2
        go_ret
        exact ⟨⟨acc, _, w1.heap.size, rfl, HEnd.out, by omega, HO.out⟩, HW1.out.trans (HW.out.mono (by omega))⟩

end Go.Proofs.Ytdicjnkbmlamgab
