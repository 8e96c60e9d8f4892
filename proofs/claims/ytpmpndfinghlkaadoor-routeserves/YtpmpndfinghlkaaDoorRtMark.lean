/- How many of the first keys are; whether the slots are all the same: the program's marked, alike. -/
import Derived.Test.YtpmpndfinghlkaaDoorRtMem
namespace Go.Proofs.YtpmpndfinghlkaaDoor
open Go.RowKit

/-- how many of the first k are -/
def cntB (L : List Bool) : Nat → Nat
  | 0 => 0
  | k + 1 => cntB L k + (if atB L k = true then 1 else 0)
theorem cntB_le (L : List Bool) : ∀ k, cntB L k ≤ k
  | 0 => Nat.le_refl _
  | k + 1 => by
    have := cntB_le L k
    unfold cntB
    split <;> omega
theorem atB_over {L : List Bool} {k : Nat} (h : L.length ≤ k) : atB L k = false := by unfold atB; rw [List.getD_eq_getElem?_getD, List.getElem?_eq_none h]; rfl
theorem cntB_over {L : List Bool} : ∀ k, L.length ≤ k → cntB L k = cntB L L.length
  | 0, h => by rw [show L.length = 0 by omega]
  | k + 1, h => by
    by_cases e : L.length = k + 1
    · rw [e]
    · rw [cntB, atB_over (by omega), cntB_over k (by omega)]; simp
theorem cntB_some (L : List Bool) : ∀ k, (0 < cntB L k ↔ someB L k = true)
  | 0 => by simp [cntB, someB]
  | k + 1 => by
    have := cntB_some L k
    simp only [cntB, someB, Bool.or_eq_true]
    cases h : atB L k <;> simp <;> omega
theorem cntB_all (L : List Bool) : ∀ k, (cntB L k = k ↔ allB L k = true)
  | 0 => by simp [cntB, allB]
  | k + 1 => by
    have := cntB_all L k
    have := cntB_le L k
    simp only [cntB, allB, Bool.and_eq_true]
    cases h : atB L k <;> simp <;> omega
theorem atB_is {L : List Bool} {k : Nat} (h : k < L.length) : atB L k = L[k] := by unfold atB; rw [List.getD_eq_getElem?_getD, List.getElem?_eq_getElem h]; rfl
set_option maxHeartbeats 2000000 in
set_option maxRecDepth 100000 in
/-- the loop of marked, over k places -/
theorem marked_lo (b o : Nat) (L : List Bool) (n c k : Nat) (w : World) (hn : L.length = n) (hr : ∀ j (h : j < L.length), w.cell? ⟨b, o + j, none⟩ = some (.bool L[j])) (hc : n ≤ c) (hc2 : c ≤ 9223372036854775807) (hk : k ≤ 9223372036854775807) (hlt0 : k < n) :
    Calls Tryd.prog 16 #[.slice (some ⟨b, o, none⟩) n c, .int .i64 (k : Int)] w fun e w' => e = .returned (.int .i64 (cntB L k : Int)) ∧ w' = w := by
  have hkz : (k : Int) < (n : Int) := by omega
  have HR := hid hr
  have HN := hid hn
  have HX : Hid (∀ i (h : i < k), ∃ x, w.cell? ⟨b, o + i, none⟩ = some (.bool x) ∧ atB L i = x) := fun i h => ⟨L[i]'(by have := HN.out; omega), HR.out i _, atB_is _⟩
  have hmc : (k : Int) ≤ (c : Int) := by omega
  have hmz63 : (k : Int) ≤ 9223372036854775807 := by omega
  clear hr hn
  go_enter Tryd.func16, Tryd.ntmps16
  go_wp2_with fail
  go_loopw [5, 7, 15] (fun v5 _ v15 W => ∃ i : Nat, i ≤ k ∧ v15 = .int .i64 (i : Int) ∧ ∃ q : Nat, v5 = .int .i64 (q : Int) ∧ q ≤ i ∧ Hid (q = cntB L i) ∧ W = w) (fun _ _ v15 _ => k - (intOf v15).toNat)
  case atStart => exact ⟨0, Nat.zero_le _, rfl, 0, rfl, Nat.le_refl _, rfl, rfl⟩
  case round =>
    obtain ⟨i, hi, rfl, q, rfl, hq, HQ, rfl⟩ := hrel
    by_cases hlt : i < k
    · have hlz : (i : Int) < (k : Int) := by omega
      obtain ⟨x, c0, hx⟩ := HX.out i hlt
      have HX0 := hid hx
      have hqz : (q : Int) ≤ 9223372036854775806 := by omega
      clear hx
      cases x
      · go_wp2
        exact ⟨⟨i + 1, by omega, by go_num, q, rfl, by omega, by show q = cntB L (i + 1); rw [cntB, HX0.out, HQ.out]; rfl, by simp⟩, by simp [intOf]; omega⟩
      · go_wp2
        exact ⟨⟨i + 1, by omega, by go_num, q + 1, by go_num, by omega, by show q + 1 = cntB L (i + 1); rw [cntB, HX0.out, HQ.out]; rfl, by simp⟩, by simp [intOf]; omega⟩
    · have hik : i = k := by omega
      subst hik
      go_wp2
      go_ret
      exact ⟨by rw [← HQ.out]; rfl, rfl⟩
set_option maxHeartbeats 2000000 in
set_option maxRecDepth 100000 in
/-- the loop of marked, over n places -/
theorem marked_hi (b o : Nat) (L : List Bool) (n c k : Nat) (w : World) (hn : L.length = n) (hr : ∀ j (h : j < L.length), w.cell? ⟨b, o + j, none⟩ = some (.bool L[j])) (hc : n ≤ c) (_hc2 : c ≤ 9223372036854775807) (_hk : k ≤ 9223372036854775807) (hlt0 : n < k) :
    Calls Tryd.prog 16 #[.slice (some ⟨b, o, none⟩) n c, .int .i64 (k : Int)] w fun e w' => e = .returned (.int .i64 (cntB L k : Int)) ∧ w' = w := by
  have hkz : (n : Int) < (k : Int) := by omega
  have HR := hid hr
  have HN := hid hn
  have HC : Hid (cntB L k = cntB L n) := by
    show _ = _
    rw [cntB_over k (by omega), hn]
  have HX : Hid (∀ i (h : i < n), ∃ x, w.cell? ⟨b, o + i, none⟩ = some (.bool x) ∧ atB L i = x) := fun i h => ⟨L[i]'(by have := HN.out; omega), HR.out i _, atB_is _⟩
  have hmc : (n : Int) ≤ (c : Int) := by omega
  have hmz63 : (n : Int) ≤ 9223372036854775807 := by omega
  clear hr hn
  go_enter Tryd.func16, Tryd.ntmps16
  go_wp2_with fail
  go_loopw [5, 7, 15] (fun v5 _ v15 W => ∃ i : Nat, i ≤ n ∧ v15 = .int .i64 (i : Int) ∧ ∃ q : Nat, v5 = .int .i64 (q : Int) ∧ q ≤ i ∧ Hid (q = cntB L i) ∧ W = w) (fun _ _ v15 _ => n - (intOf v15).toNat)
  case atStart => exact ⟨0, Nat.zero_le _, rfl, 0, rfl, Nat.le_refl _, rfl, rfl⟩
  case round =>
    obtain ⟨i, hi, rfl, q, rfl, hq, HQ, rfl⟩ := hrel
    by_cases hlt : i < n
    · have hlz : (i : Int) < (n : Int) := by omega
      obtain ⟨x, c0, hx⟩ := HX.out i hlt
      have HX0 := hid hx
      have hqz : (q : Int) ≤ 9223372036854775806 := by omega
      clear hx
      cases x
      · go_wp2
        exact ⟨⟨i + 1, by omega, by go_num, q, rfl, by omega, by show q = cntB L (i + 1); rw [cntB, HX0.out, HQ.out]; rfl, by simp⟩, by simp [intOf]; omega⟩
      · go_wp2
        exact ⟨⟨i + 1, by omega, by go_num, q + 1, by go_num, by omega, by show q + 1 = cntB L (i + 1); rw [cntB, HX0.out, HQ.out]; rfl, by simp⟩, by simp [intOf]; omega⟩
    · have hik : i = n := by omega
      subst hik
      go_wp2
      go_ret
      exact ⟨by rw [HC.out, ← HQ.out]; rfl, rfl⟩
set_option maxHeartbeats 2000000 in
set_option maxRecDepth 100000 in
/-- the loop of marked, over k places -/
theorem marked_eq (b o : Nat) (L : List Bool) (n c k : Nat) (w : World) (hn : L.length = n) (hr : ∀ j (h : j < L.length), w.cell? ⟨b, o + j, none⟩ = some (.bool L[j])) (hc : n ≤ c) (_hc2 : c ≤ 9223372036854775807) (hk : k ≤ 9223372036854775807) (hlt0 : k = n) :
    Calls Tryd.prog 16 #[.slice (some ⟨b, o, none⟩) n c, .int .i64 (k : Int)] w fun e w' => e = .returned (.int .i64 (cntB L k : Int)) ∧ w' = w := by
  subst hlt0
  have HR := hid hr
  have HN := hid hn
  have HX : Hid (∀ i (h : i < k), ∃ x, w.cell? ⟨b, o + i, none⟩ = some (.bool x) ∧ atB L i = x) := fun i h => ⟨L[i]'(by have := HN.out; omega), HR.out i _, atB_is _⟩
  have hmc : (k : Int) ≤ (c : Int) := by omega
  have hmz63 : (k : Int) ≤ 9223372036854775807 := by omega
  clear hr hn
  go_enter Tryd.func16, Tryd.ntmps16
  go_wp2_with fail
  go_loopw [5, 7, 15] (fun v5 _ v15 W => ∃ i : Nat, i ≤ k ∧ v15 = .int .i64 (i : Int) ∧ ∃ q : Nat, v5 = .int .i64 (q : Int) ∧ q ≤ i ∧ Hid (q = cntB L i) ∧ W = w) (fun _ _ v15 _ => k - (intOf v15).toNat)
  case atStart => exact ⟨0, Nat.zero_le _, rfl, 0, rfl, Nat.le_refl _, rfl, rfl⟩
  case round =>
    obtain ⟨i, hi, rfl, q, rfl, hq, HQ, rfl⟩ := hrel
    by_cases hlt : i < k
    · have hlz : (i : Int) < (k : Int) := by omega
      obtain ⟨x, c0, hx⟩ := HX.out i hlt
      have HX0 := hid hx
      have hqz : (q : Int) ≤ 9223372036854775806 := by omega
      clear hx
      cases x
      · go_wp2
        exact ⟨⟨i + 1, by omega, by go_num, q, rfl, by omega, by show q = cntB L (i + 1); rw [cntB, HX0.out, HQ.out]; rfl, by simp⟩, by simp [intOf]; omega⟩
      · go_wp2
        exact ⟨⟨i + 1, by omega, by go_num, q + 1, by go_num, by omega, by show q + 1 = cntB L (i + 1); rw [cntB, HX0.out, HQ.out]; rfl, by simp⟩, by simp [intOf]; omega⟩
    · have hik : i = k := by omega
      subst hik
      go_wp2
      go_ret
      exact ⟨by rw [← HQ.out]; rfl, rfl⟩
set_option maxHeartbeats 2000000 in
set_option maxRecDepth 100000 in
theorem marked_none (a : Option Addr) (c k : Nat) (w : World) (hc2 : c ≤ 9223372036854775807) (hk : k ≤ 9223372036854775807) :
    Calls Tryd.prog 16 #[.slice a 0 c, .int .i64 (k : Int)] w fun e w' => e = .returned (.int .i64 0) ∧ w' = w := by
  have hmz : min (0 : Int) (k : Int) = 0 := by omega
  have hk0 : (0 : Int) ≤ (k : Int) := by omega
  have hc0 : (0 : Int) ≤ (c : Int) := by omega
  cases a with
  | none =>
    go_enter Tryd.func16, Tryd.ntmps16
    go_wp2_with fail
    refine wp_loop_rounds 1 ?_
    rw [rounds_succ]
    go_wp2
    go_ret
    exact ⟨rfl, rfl⟩
  | some ad =>
    go_enter Tryd.func16, Tryd.ntmps16
    go_wp2_with fail
    refine wp_loop_rounds 1 ?_
    rw [rounds_succ]
    go_wp2
    go_ret
    exact ⟨rfl, rfl⟩
/-- marked -/
theorem marked_any (a : Option Addr) (L : List Bool) (n c k : Nat) (w : World) (hn : L.length = n) (hL : BoolsR w a L) (hc : n ≤ c) (hc2 : c ≤ 9223372036854775807) (hk : k ≤ 9223372036854775807) :
    Calls Tryd.prog 16 #[.slice a n c, .int .i64 (k : Int)] w fun e w' => e = .returned (.int .i64 (cntB L k : Int)) ∧ w' = w := by
  by_cases h0 : L = []
  · subst h0
    obtain rfl : n = 0 := by simpa using hn.symm
    rw [cntB_over k (Nat.zero_le _)]
    exact marked_none a c k w hc2 hk
  · obtain ⟨b, o, rfl, -, hr⟩ := hL h0
    rcases (show k < n ∨ n < k ∨ k = n by omega) with h | h | h
    · exact marked_lo b o L n c k w hn hr hc hc2 hk h
    · exact marked_hi b o L n c k w hn hr hc hc2 hk h
    · exact marked_eq b o L n c k w hn hr hc hc2 hk h
set_option maxHeartbeats 2000000 in
set_option maxRecDepth 100000 in
/-- alike -/
theorem alike_any (b o : Nat) (L : List Int) (n c : Nat) (w : World) (hn : L.length = n) (hr : ∀ j (h : j < L.length), w.cell? ⟨b, o + j, none⟩ = some (.int .i64 L[j])) (h0 : 0 < n) (hc2 : n ≤ 9223372036854775807) :
    Calls Tryd.prog 17 #[.slice (some ⟨b, o, none⟩) n c] w fun e w' => e = .returned (.bool (sameS L (L.getD 0 0) n)) ∧ w' = w := by
  obtain ⟨s0, hs0⟩ : ∃ s, L.getD 0 0 = s := ⟨_, rfl⟩
  have HX : Hid (∀ i (h : i < n), ∃ x, w.cell? ⟨b, o + i, none⟩ = some (.int .i64 x) ∧ L.getD i 0 = x) := fun i h => ⟨L[i]'(by omega), hr i _, by rw [List.getD_eq_getElem?_getD, List.getElem?_eq_getElem (by omega)]; rfl⟩
  obtain ⟨x0, hc0, hx0⟩ := HX.out 0 h0
  rw [hs0] at hx0 ⊢
  subst hx0
  have hz63 : (n : Int) ≤ 9223372036854775807 := by omega
  have hz0 : (0 : Int) < (n : Int) := by omega
  rw [Nat.add_zero] at hc0
  clear hr hn hs0
  go_enter Tryd.func17, Tryd.ntmps17
  go_wp2_with fail
  go_loopw [4, 7] (fun _ v7 W => ∃ i : Nat, i ≤ n ∧ v7 = .int .i64 (i : Int) ∧ Hid (sameS L s0 i = true) ∧ W = w) (fun _ v7 _ => n - (intOf v7).toNat)
  case atStart => exact ⟨0, Nat.zero_le _, rfl, rfl, rfl⟩
  case round =>
    obtain ⟨i, hi, rfl, HS, rfl⟩ := hrel
    by_cases hlt : i < n
    · have hlz : (i : Int) < (n : Int) := by omega
      obtain ⟨x, c0, hx⟩ := HX.out i hlt
      have HX0 := hid hx
      clear hx
      by_cases hxs : x = s0
      · subst hxs
        go_wp2
        exact ⟨⟨i + 1, by omega, by go_num, by show sameS L _ (i + 1) = true; unfold sameS; rw [HS.out, HX0.out]; simp, by simp⟩, by simp [intOf]; omega⟩
      · have hxe : (x == s0) = false := beq_eq_false_iff_ne.2 hxs
        have HF : Hid (sameS L s0 n = false) := sameS_not (by rw [HX0.out]; exact hxs) n hlt
        clear hxs
        go_wp2
        go_ret
        exact ⟨by rw [HF.out]; rfl, rfl⟩
    · have hm : i = n := by omega
      subst hm
      go_wp2
      go_ret
      exact ⟨by rw [HS.out]; rfl, rfl⟩

end Go.Proofs.YtpmpndfinghlkaaDoor
