/- All slots of a set, rising, by the document: ref All. -/
import Derived.Test.YtgpdbcigogkkbaaDoorMake
namespace Go.Proofs.YtgpdbcigogkkbaaDoor
open Go.RowKit
open Slot

/-- the slots below m -/
def upto (S : Nat → Bool) (m : Nat) : List Nat := (List.range m).filter S
theorem upto_succ (S : Nat → Bool) (m : Nat) : upto S (m + 1) = upto S m ++ if S m then [m] else [] := by
  unfold upto
  rw [List.range_succ, List.filter_append]
  cases h : S m <;> simp [h]
theorem upto_len (S : Nat → Bool) (m : Nat) : (upto S m).length ≤ m := by
  unfold upto
  have := List.length_filter_le S (List.range m)
  simpa using this
theorem upto_skip {S : Nat → Bool} {a n : Nat} (h : ∀ k, k < n → S (a + k) = false) : upto S (a + n) = upto S a := by
  induction n with
  | zero => rfl
  | succ n ih => rw [← Nat.add_assoc, upto_succ, ih (fun k hk => h k (by omega)), h n (by omega)]; simp
/-- numbers, cell by cell -/
def nums (l : List Nat) : List Value := l.map fun (n : Nat) => Value.int .i64 (n : Int)
theorem nums_len (l : List Nat) : (nums l).length = l.length := by simp [nums]
theorem infoInt : (Tryd.prog.info? 3).map (fun i => (i.zero, i.size, i.bytes)) = some (some (.int .i64 0), 1, 8) := by kernel_rfl
theorem pushn_run (B : Nat) (w : World) (v : Value) (l : List Nat) (n : Nat) (z : Int) (hz : z = (n : Int)) (hown : w.ownsRow B 3 1 v l.length (nums l)) (hB : B ≤ w.heap.size) (hlen : l.length ≤ 16384) :
    ∃ v' w', (Builtin.append_ #[72, 72] 72 #[v, .slice (some ⟨w.heap.size, 0, none⟩) 1 1]).run Tryd.prog (w.alloc (.cells #[.int .i64 z] 3)) = .ok v' w' ∧ w'.ownsRow B 3 1 v' (l ++ [n]).length (nums (l ++ [n])) ∧ Below B w w' ∧ B ≤ w'.heap.size := by
  subst hz
  obtain ⟨i0, hi, hz0, hz1, hz2⟩ := info_parts infoInt
  have hown' := owns_below hown (below_alloc w (.cells #[.int .i64 (n : Int)] 3))
  obtain ⟨v', w', hrun, ho, hgr, _⟩ := run_append_own (P := Tryd.prog) (w.alloc (.cells #[.int .i64 (n : Int)] 3)) B 72 72 3 i0 (.int .i64 0) 1 8 Tryd.underlying72 hi hz0 hz1 hz2 rfl (by decide) _ _ _ hown' ⟨w.heap.size, 0, none⟩ 1 1 [.int .i64 (n : Int)] rfl
    (fun j u hj => by
      rw [Go.WideShapes.add_plain, cell_of_row _ _ _ _ _ _ (heap_alloc_new w _)]
      simpa using hj)
    (fun u hu => by rw [List.mem_singleton.1 hu]; rfl) (by unfold maxLen; omega) (by omega) (by simp; omega)
  refine ⟨v', w', hrun, ?_, ?_, ?_⟩
  · rw [show nums (l ++ [n]) = nums l ++ [.int .i64 (n : Int)] by simp [nums], List.length_append]
    exact ho
  · exact ((Below.refl B w).alloc hB _).grown hgr (by simp; omega) (fun k hk => (World.ownsRow.lt hown k hk).1)
  · have := hgr.size; simp at this; omega
theorem shift_bit (S : Nat → Bool) (i k : Nat) (hk : k < 64) : (word S i / 2 ^ k % 2 = 1) ↔ S (64 * i + k) = true := by
  have h := word_bit S (64 * i + k)
  rw [show (64 * i + k) / 64 = i by omega, show (64 * i + k) % 64 = k by omega, Nat.testBit_eq_decide_div_mod_eq] at h
  rw [← h]; simp
theorem shift_end (S : Nat → Bool) (i k : Nat) (h : word S i / 2 ^ k = 0) : ∀ j, k ≤ j → j < 64 → S (64 * i + j) = false := fun j h1 h2 => by
  have h3 : word S i < 2 ^ k := by
    have := Nat.lt_of_div_eq_zero (Nat.pow_pos (by decide)) h
    exact this
  have hb := word_bit S (64 * i + j)
  rw [show (64 * i + j) / 64 = i by omega, show (64 * i + j) % 64 = j by omega] at hb
  rw [← hb]
  exact Nat.testBit_lt_two_pow (Nat.lt_of_lt_of_le h3 (Nat.pow_le_pow_right (by decide) h1))
theorem shift_live {S : Nat → Bool} {i k : Nat} (h : 0 < word S i / 2 ^ k) : k < 64 := by
  by_cases hk : k < 64
  · exact hk
  · exfalso
    have h1 := word_lt S i
    have h2 : 2 ^ 64 ≤ 2 ^ k := Nat.pow_le_pow_right (by decide) (by omega)
    have : word S i / 2 ^ k = 0 := Nat.div_eq_of_lt (by omega)
    omega

set_option maxHeartbeats 2000000 in
set_option maxRecDepth 100000 in
/-- ref All -/
theorem rAll_any (S : Nat → Bool) (w : World) :
    Calls Tryd.prog 44 #[.agg (cellsOf S)] w fun e w' => (∃ v, e = .returned v ∧ w'.ownsRow (w.heap.size + 1) 3 1 v (upto S 16384).length (nums (upto S 16384))) ∧ Below w.heap.size w w' := by
  have HB0 := hid (box_new w S)
  go_enter Tryd.func44, Tryd.ntmps44
  go_wp2
  go_loopw [3, 4, 5, 6] (fun v i _ _ W => ∃ n : Nat, n ≤ 256 ∧ i = .int .i64 n ∧ Hid (W.ownsRow (w.heap.size + 1) 3 1 v (upto S (64 * n)).length (nums (upto S (64 * n)))) ∧ Hid (Below (w.heap.size + 1) (w.alloc (.cells (cellsOf S) 24)) W) ∧ w.heap.size + 1 ≤ W.heap.size) (fun _ i _ _ _ => 256 - (intOf i).toNat)
  case atStart => exact ⟨0, Nat.zero_le _, rfl, (World.ownsRow_nil _ _ _ _ : World.ownsRow _ _ _ _ (.slice none 0 0) 0 []), Below.refl _ _, by simp⟩
  case round =>
    obtain ⟨n, hn, rfl, HO, HW, hsz⟩ := hrel
    by_cases hlt : n < 256
    · have hc : wr.cell? ⟨w.heap.size, n, none⟩ = some (.int .u64 (word S n : Int)) := by
        rw [HW.out.cell (p := ⟨w.heap.size, n, none⟩) (by simp)]
        exact HB0.out.cell n hlt
      have hdn : decide ((n : Int) < 256) = true := decide_eq_true (by omega)
      go_wp2
      go_loopw [3, 5, 6] (fun v x k W => ∃ j : Nat, j ≤ 64 ∧ k = .int .i64 j ∧ x = .int .u64 ((word S n / 2 ^ j : Nat) : Int) ∧ Hid (W.ownsRow (w.heap.size + 1) 3 1 v (upto S (64 * n + j)).length (nums (upto S (64 * n + j)))) ∧ Hid (Below (w.heap.size + 1) (w.alloc (.cells (cellsOf S) 24)) W) ∧ w.heap.size + 1 ≤ W.heap.size) (fun _ _ k _ => 64 - (intOf k).toNat)
      case atStart => exact ⟨0, by omega, rfl, by simp, HO.out, HW.out, hsz⟩
      case round =>
        obtain ⟨j, hj, rfl, rfl, HO1, HW1, hsz1⟩ := hrel
        have hX : word S n / 2 ^ j < 18446744073709551616 := Nat.lt_of_le_of_lt (Nat.div_le_self _ _) (word_lt S n)
        have HN : Hid (word S n / 2 ^ (j + 1) = word S n / 2 ^ j / 2) := by unfold Hid; rw [Nat.pow_succ, Nat.div_div_eq_div_mul]
        have HBt := hid (shift_bit S n j)
        have HEn := hid (shift_end S n j)
        have HLi := hid (shift_live (S := S) (i := n) (k := j))
        generalize word S n / 2 ^ j = X at hX HN HBt HEn HLi
        by_cases hpos : 0 < X
        · have hj64 := HLi.out hpos
          have HS := hid (upto_succ S (64 * n + j))
          have hul := upto_len S (64 * n + j)
          by_cases hb : X % 2 = 1
          · have hS := (HBt.out hj64).1 hb
            rw [hS, if_pos rfl] at HS
            obtain ⟨v', w', hrun, ho, hbl, hs'⟩ := pushn_run (w.heap.size + 1) wr u3 (upto S (64 * n + j)) (64 * n + j) (64 * (n : Int) + (j : Int)) (by omega) HO1.out hsz1 (by omega)
            rw [← HS.out] at ho
            have HRun := hid hrun
            have HO2 := hid ho
            have HW2 := hid (HW1.out.trans hbl)
            have hbI : ((X : Int) % 2 == 1) = true := by rw [beq_iff_eq]; omega
            clear hrun ho hbl hb HBt HEn HLi hul
            go_wp2_with (at_builtin; refine wpList_append_run rfl _ _ 72 rfl _ _ _ _ rfl rfl HRun.out ?_)
            go_roundw
            case rel =>
              have hrel : ∃ j1 : Nat, j1 ≤ 64 ∧ Value.int .i64 ((j : Int) + 1) = .int .i64 j1 ∧ Value.int .u64 ((X : Int) / 2) = .int .u64 ((word S n / 2 ^ j1 : Nat) : Int) ∧ Hid (w'.ownsRow (w.heap.size + 1) 3 1 v' (upto S (64 * n + j1)).length (nums (upto S (64 * n + j1)))) ∧ Hid (Below (w.heap.size + 1) (w.alloc (.cells (cellsOf S) 24)) w') ∧ w.heap.size + 1 ≤ w'.heap.size := ⟨j + 1, by omega, by go_num, by rw [HN.out]; simp, HO2.out, HW2.out, hs'⟩
              first | exact hrel | ((repeat apply Exists.intro); exact ⟨hrel, rfl⟩)
            case measure => simp [intOf]; omega
          · have hS : S (64 * n + j) = false := by
              cases e : S (64 * n + j)
              · rfl
              · exact absurd ((HBt.out hj64).2 e) hb
            rw [hS, if_neg (by decide), List.append_nil] at HS
            have HO2 := HO1
            rw [← HS.out] at HO2
            have hbI : ((X : Int) % 2 == 1) = false := by rw [beq_eq_false_iff_ne]; omega
            clear hb HBt HEn HLi hul
            go_wp2
            go_roundw
            case rel => exact ⟨j + 1, by omega, by go_num, by rw [HN.out]; simp, HO2.out, HW1.out, hsz1⟩
            case measure => simp [intOf]; omega
        · have h0 : X = 0 := by omega
          have HS : Hid (upto S (64 * (n + 1)) = upto S (64 * n + j)) := by
            have := upto_skip (S := S) (a := 64 * n + j) (n := 64 - j) (fun k hk => by rw [Nat.add_assoc]; exact HEn.out h0 (j + k) (by omega) (by omega))
            unfold Hid
            rw [← this, show 64 * n + j + (64 - j) = 64 * (n + 1) by omega]
          have HO2 := HO1
          rw [← HS.out] at HO2
          subst h0
          clear HBt HEn HLi
          go_wp2
          go_roundw
          case rel => exact ⟨n + 1, by omega, by go_num, HO2.out, HW1.out, hsz1⟩
          case measure => simp [intOf]; omega
    · have e : n = 256 := by omega
      subst e
      go_wp2
      go_ret
      exact ⟨⟨_, rfl, HO.out⟩, (below_alloc _ _).trans (HW.out.mono (by omega))⟩

end Go.Proofs.YtgpdbcigogkkbaaDoor
