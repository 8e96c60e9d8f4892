/- Whether a text is written as a number is, by the document: ref formed. -/
import Derived.Test.YtnlgdfceceehlaaDoorDigs
namespace Go.Proofs.YtnlgdfceceehlaaDoor
open Go.RowKit

theorem byte_is {l : List UInt8} {n : Nat} (h : n < l.length) (c : UInt8) (z : Int) (hz : (c.toNat : Int) = z) : ((((⟨l.toArray⟩ : ByteArray)[n]'(by simpa [ByteArray.size] using h)).toNat : Int) == z) = decide (l[n] = c) := by
  have e : ((⟨l.toArray⟩ : ByteArray)[n]'(by simpa [ByteArray.size] using h)) = l[n] := rfl
  rw [e, ← hz]
  by_cases hc : l[n] = c
  · simp [hc]
  · rw [decide_eq_false hc]
    exact beq_eq_false_iff_ne.2 fun e2 => hc (UInt8.toNat_inj.1 (by omega))
/-- those between are digits -/
def DigIn (l : List UInt8) (k i : Nat) : Prop := ∀ j (h : j < l.length), k ≤ j → j < i → isD l[j] = true
theorem DigIn.all {l : List UInt8} {k : Nat} (h : DigIn l k l.length) : (l.drop k).all isD = true := by
  rw [List.all_eq_true]
  intro x hx
  obtain ⟨j, hj, e⟩ := List.getElem_of_mem hx
  rw [← e, List.getElem_drop]
  exact h (k + j) (by simp at hj; omega) (by omega) (by simp at hj; omega)
theorem not_in {l : List UInt8} {k i : Nat} (h : i < l.length) (hk : k ≤ i) (hx : isD l[i] = false) : (l.drop k).all isD = false := by
  refine not_all (i := i - k) (by simp; omega) ?_
  rw [List.getElem_drop]
  have e : k + (i - k) = i := by omega
  simp only [e]
  exact hx
set_option maxHeartbeats 2000000 in
set_option maxRecDepth 100000 in
theorem rformed_plain (l : List UInt8) (w : World) (hl : l.length ≤ 140737488351232) (h0 : 0 < l.length) (h45 : l[0] ≠ 45) (h48 : l[0] ≠ 48) :
    Calls Tryd.prog 21 #[.string ⟨l.toArray⟩] w fun e w' => e = .returned (.bool ((l.drop 0).all isD)) ∧ w' = w := by
  have e45 := byte_is h0 45 45 rfl
  rw [decide_eq_false h45] at e45
  have e48 := byte_is h0 48 48 rfl
  rw [decide_eq_false h48] at e48
  have hz0 : (0 : Int) < (l.length : Int) := by omega
  have hz1 : (l.length : Int) ≤ 140737488351232 := by omega
  have hze : ((l.length : Int) == 0) = false := beq_eq_false_iff_ne.2 (by omega)
  obtain ⟨V, hV⟩ : ∃ V, V = (l.drop 0).all isD := ⟨_, rfl⟩
  rw [← hV]
  have HV := hid hV
  clear hV h45 h48
  go_enter Tryd.func21, Tryd.ntmps21
  go_wp2_with fail
  go_loopw [4] (fun v4 W => ∃ i : Nat, v4 = .int .i64 i ∧ 0 ≤ i ∧ i ≤ l.length ∧ Hid (DigIn l 0 i) ∧ W = w) (fun v4 _ => l.length - (intOf v4).toNat)
  case atStart => exact ⟨0, rfl, Nat.le_refl _, by omega, fun j _ h1 h2 => absurd h2 (by omega), rfl⟩
  case round =>
    obtain ⟨i, rfl, hk, hi, HN, rfl⟩ := hrel
    by_cases hlt : i < l.length
    · have hlz : (i : Int) < (l.length : Int) := by omega
      obtain ⟨X, hX⟩ : ∃ X : Int, X = (l[i].toNat : Int) := ⟨_, rfl⟩
      have hx0 : 0 ≤ X := by omega
      have hx1 : X ≤ 255 := by have := l[i].toNat_lt; omega
      have hB : ((((⟨l.toArray⟩ : ByteArray)[i]'(by simpa [ByteArray.size] using hlt)).toNat : Nat) : Int) = X := by rw [hX]; rfl
      have hD : isD l[i] = decide (48 ≤ X ∧ X ≤ 57) := by unfold isD; exact decide_eq_decide.2 (by omega)
      have HY : Hid (isD l[i] = true → DigIn l 0 (i + 1)) := fun h j hj h1 h2 => by
        by_cases e : j = i
        · subst e; exact h
        · exact HN.out j hj h1 (by omega)
      have HNo := hid (fun h => not_in (k := 0) hlt hk h)
      rw [hD] at HY HNo
      clear hX hD
      rcases (show X < 48 ∨ ¬ X < 48 ∧ 57 < X ∨ (¬ X < 48 ∧ ¬ 57 < X) by omega) with c1 | ⟨c1, c2⟩ | ⟨c1, c2⟩
      · obtain rfl : V = false := by rw [HV.out]; exact HNo.out (decide_eq_false (by omega))
        go_wp2
        go_ret
        exact ⟨rfl, rfl⟩
      · obtain rfl : V = false := by rw [HV.out]; exact HNo.out (decide_eq_false (by omega))
        go_wp2
        go_ret
        exact ⟨rfl, rfl⟩
      · have HC := hid (HY.out (decide_eq_true (by omega)))
        go_wp2
        exact ⟨⟨i + 1, by go_num, by omega, by omega, HC.out, by simp⟩, by simp [intOf]; omega⟩
    · obtain rfl : V = true := by
        rw [HV.out]
        refine DigIn.all ?_
        have := HN.out
        rwa [show i = l.length by omega] at this
      go_wp2
      go_ret
      exact ⟨rfl, rfl⟩
set_option maxHeartbeats 2000000 in
set_option maxRecDepth 100000 in
theorem rformed_minus (l : List UInt8) (w : World) (hl : l.length ≤ 140737488351232) (h0 : 1 < l.length) (h45 : l[0] = 45) (h48 : l[1] ≠ 48) :
    Calls Tryd.prog 21 #[.string ⟨l.toArray⟩] w fun e w' => e = .returned (.bool ((l.drop 1).all isD)) ∧ w' = w := by
  have e45 := byte_is (l := l) (n := 0) (by omega) 45 45 rfl
  rw [decide_eq_true h45] at e45
  have e48 := byte_is h0 48 48 rfl
  rw [decide_eq_false h48] at e48
  have hz0 : (1 : Int) < (l.length : Int) := by omega
  have hz1 : (l.length : Int) ≤ 140737488351232 := by omega
  have hze : ((l.length : Int) == 1) = false := beq_eq_false_iff_ne.2 (by omega)
  obtain ⟨V, hV⟩ : ∃ V, V = (l.drop 1).all isD := ⟨_, rfl⟩
  rw [← hV]
  have HV := hid hV
  clear hV h45 h48
  go_enter Tryd.func21, Tryd.ntmps21
  go_wp2_with fail
  go_loopw [4] (fun v4 W => ∃ i : Nat, v4 = .int .i64 i ∧ 1 ≤ i ∧ i ≤ l.length ∧ Hid (DigIn l 1 i) ∧ W = w) (fun v4 _ => l.length - (intOf v4).toNat)
  case atStart => exact ⟨1, rfl, Nat.le_refl _, by omega, fun j _ h1 h2 => absurd h2 (by omega), rfl⟩
  case round =>
    obtain ⟨i, rfl, hk, hi, HN, rfl⟩ := hrel
    by_cases hlt : i < l.length
    · have hlz : (i : Int) < (l.length : Int) := by omega
      obtain ⟨X, hX⟩ : ∃ X : Int, X = (l[i].toNat : Int) := ⟨_, rfl⟩
      have hx0 : 0 ≤ X := by omega
      have hx1 : X ≤ 255 := by have := l[i].toNat_lt; omega
      have hB : ((((⟨l.toArray⟩ : ByteArray)[i]'(by simpa [ByteArray.size] using hlt)).toNat : Nat) : Int) = X := by rw [hX]; rfl
      have hD : isD l[i] = decide (48 ≤ X ∧ X ≤ 57) := by unfold isD; exact decide_eq_decide.2 (by omega)
      have HY : Hid (isD l[i] = true → DigIn l 1 (i + 1)) := fun h j hj h1 h2 => by
        by_cases e : j = i
        · subst e; exact h
        · exact HN.out j hj h1 (by omega)
      have HNo := hid (fun h => not_in (k := 1) hlt hk h)
      rw [hD] at HY HNo
      clear hX hD
      rcases (show X < 48 ∨ ¬ X < 48 ∧ 57 < X ∨ (¬ X < 48 ∧ ¬ 57 < X) by omega) with c1 | ⟨c1, c2⟩ | ⟨c1, c2⟩
      · obtain rfl : V = false := by rw [HV.out]; exact HNo.out (decide_eq_false (by omega))
        go_wp2
        go_ret
        exact ⟨rfl, rfl⟩
      · obtain rfl : V = false := by rw [HV.out]; exact HNo.out (decide_eq_false (by omega))
        go_wp2
        go_ret
        exact ⟨rfl, rfl⟩
      · have HC := hid (HY.out (decide_eq_true (by omega)))
        go_wp2
        exact ⟨⟨i + 1, by go_num, by omega, by omega, HC.out, by simp⟩, by simp [intOf]; omega⟩
    · obtain rfl : V = true := by
        rw [HV.out]
        refine DigIn.all ?_
        have := HN.out
        rwa [show i = l.length by omega] at this
      go_wp2
      go_ret
      exact ⟨rfl, rfl⟩
set_option maxHeartbeats 2000000 in
set_option maxRecDepth 100000 in
theorem rformed_nought (l : List UInt8) (w : World) (hl : l.length ≤ 140737488351232) (h0 : 0 < l.length) (h48 : l[0] = 48) (hne : l ≠ [48]) :
    Calls Tryd.prog 21 #[.string ⟨l.toArray⟩] w fun e w' => e = .returned (.bool false) ∧ w' = w := by
  have e45 := byte_is h0 45 45 rfl
  rw [decide_eq_false (by rw [h48]; decide)] at e45
  have e48 := byte_is h0 48 48 rfl
  rw [decide_eq_true h48] at e48
  have hz0 : (0 : Int) < (l.length : Int) := by omega
  have hz1 : (l.length : Int) ≤ 140737488351232 := by omega
  have hze : ((l.length : Int) == 0) = false := beq_eq_false_iff_ne.2 (by omega)
  have hq : (l == [48]) = false := beq_eq_false_iff_ne.2 hne
  clear h48 hne
  go_enter Tryd.func21, Tryd.ntmps21
  go_wp2
  go_ret
  exact ⟨rfl, rfl⟩
set_option maxHeartbeats 2000000 in
set_option maxRecDepth 100000 in
theorem rformed_zero (l : List UInt8) (w : World) (hl : l.length ≤ 140737488351232) (h0 : 1 < l.length) (h45 : l[0] = 45) (h48 : l[1] = 48) :
    Calls Tryd.prog 21 #[.string ⟨l.toArray⟩] w fun e w' => e = .returned (.bool false) ∧ w' = w := by
  have e45 := byte_is (l := l) (n := 0) (by omega) 45 45 rfl
  rw [decide_eq_true h45] at e45
  have e48 := byte_is h0 48 48 rfl
  rw [decide_eq_true h48] at e48
  have hz0 : (1 : Int) < (l.length : Int) := by omega
  have hz1 : (l.length : Int) ≤ 140737488351232 := by omega
  have hze : ((l.length : Int) == 1) = false := beq_eq_false_iff_ne.2 (by omega)
  have hq : (l == [48]) = false := beq_eq_false_iff_ne.2 fun e => by rw [e] at h0; simp at h0
  clear h45 h48
  go_enter Tryd.func21, Tryd.ntmps21
  go_wp2
  go_ret
  exact ⟨rfl, rfl⟩
set_option maxHeartbeats 2000000 in
set_option maxRecDepth 100000 in
theorem rformed_one (w : World) :
    Calls Tryd.prog 21 #[.string ⟨#[48]⟩] w fun e w' => e = .returned (.bool true) ∧ w' = w := by
  go_enter Tryd.func21, Tryd.ntmps21
  go_wp2_with fail
  refine wp_loop_rounds 2 ?_
  rw [rounds_succ]
  go_wp2_with fail
  rw [rounds_succ]
  go_wp2_with fail
  go_ret
  exact ⟨rfl, rfl⟩
set_option maxHeartbeats 2000000 in
set_option maxRecDepth 100000 in
theorem rformed_sign (w : World) :
    Calls Tryd.prog 21 #[.string ⟨#[45]⟩] w fun e w' => e = .returned (.bool false) ∧ w' = w := by
  go_enter Tryd.func21, Tryd.ntmps21
  go_wp2
  go_ret
  exact ⟨rfl, rfl⟩
set_option maxHeartbeats 2000000 in
set_option maxRecDepth 100000 in
theorem rformed_void (w : World) :
    Calls Tryd.prog 21 #[.string ⟨#[]⟩] w fun e w' => e = .returned (.bool false) ∧ w' = w := by
  go_enter Tryd.func21, Tryd.ntmps21
  go_wp2
  go_ret
  exact ⟨rfl, rfl⟩
/-- ref formed -/
theorem rformed_any (l : List UInt8) (w : World) (hl : l.length ≤ 140737488351232) :
    Calls Tryd.prog 21 #[.string ⟨l.toArray⟩] w fun e w' => e = .returned (.bool (formed l)) ∧ w' = w := by
  cases l with
  | nil => exact rformed_void w
  | cons c r =>
    by_cases hc : c = 45
    · subst hc
      cases r with
      | nil => exact rformed_sign w
      | cons d r =>
        by_cases hd : d = 48
        · subst hd
          rw [show formed (45 :: 48 :: r) = false by simp [formed, digs_minus]]
          exact rformed_zero _ w hl (by simp) rfl rfl
        · rw [show formed (45 :: d :: r) = ((45 :: d :: r).drop 1).all isD by simp [formed, digs_minus, hd]]
          exact rformed_minus _ w hl (by simp) rfl hd
    · have hn : neg (c :: r) = false := by simp [neg, hc]
      by_cases hd : c = 48
      · subst hd
        cases r with
        | nil => exact rformed_one w
        | cons x r =>
          rw [show formed (48 :: x :: r) = false by simp [formed, digs_plain hn]]
          exact rformed_nought _ w hl (by simp) rfl (by simp)
      · rw [show formed (c :: r) = ((c :: r).drop 0).all isD by simp [formed, digs_plain hn, hd]]
        exact rformed_plain _ w hl (by simp) hc hd

end Go.Proofs.YtnlgdfceceehlaaDoor
