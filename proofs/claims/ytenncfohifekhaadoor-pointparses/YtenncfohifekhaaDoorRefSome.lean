/- ref04's whole and Whole at any text: some answer; at a number's writing that number. -/
import Derived.Test.YtenncfohifekhaaDoorRefWhole
namespace Go.Proofs.YtenncfohifekhaaDoor
open Go.RowKit

set_option maxHeartbeats 4000000 in
set_option maxRecDepth 100000 in
/-- ref whole, at any text that begins with a minus -/
theorem some_1 (l : List UInt8) (w : World) (h0 : 1 < l.length) (hl : l.length ≤ 20) (h45 : l[0] = 45) :
    Calls Tryd.prog 45 #[.string ⟨l.toArray⟩] w fun e w' => (∃ (V : Int) (F : Bool), e = .returned (.tuple #[.int .i64 V, .bool F])) ∧ Below w.heap.size w w' := by
  have HD : Hid (∀ n : Int, -9223372036854775808 ≤ n → n ≤ 9223372036854775807 → ∀ w, Calls Tryd.prog 33 #[.int .i64 n] w fun e w' => e = .returned (.string ⟨(Lib.itoa n).toArray⟩) ∧ Below w.heap.size w w') := fun n h1 h2 w => digits_any n w h1 h2
  have e45 := byte_is (l := l) (n := 0) (by omega) 45 45 rfl
  rw [decide_eq_true h45] at e45
  have hz0 : (1 : Int) < (l.length : Int) := by omega
  have hz1 : (l.length : Int) ≤ 20 := by omega
  have hze : ((1 : Int) == (l.length : Int)) = false := beq_eq_false_iff_ne.2 (by omega)
  clear h45
  go_enter Tryd.func45, Tryd.ntmps45
  go_wp2_with fail
  go_loopw [4, 6, 7] (fun v4 v6 _ W => ∃ (i : Nat) (n : Int), v4 = .int .i64 n ∧ v6 = .int .i64 i ∧ i ≤ l.length ∧ n ≤ 0 ∧ -9223372036854775808 ≤ n ∧ W = w) (fun _ v6 _ _ => l.length - (intOf v6).toNat)
  case atStart => exact ⟨1, 0, rfl, rfl, by omega, by decide, by decide, rfl⟩
  case round =>
    obtain ⟨i, n, rfl, rfl, hi, hn1, hn0, rfl⟩ := hrel
    by_cases hlt : i < l.length
    · have hlz : (i : Int) < (l.length : Int) := by omega
      obtain ⟨X, hX⟩ : ∃ X : Int, X = (l[i].toNat : Int) := ⟨_, rfl⟩
      have hB : ((((⟨l.toArray⟩ : ByteArray)[i]'(by simpa [ByteArray.size] using hlt)).toNat : Nat) : Int) = X := by rw [hX]; rfl
      have hxx : 0 ≤ X := by omega
      clear hX
      rcases (show X < 48 ∨ 57 < X ∨ (48 ≤ X ∧ X ≤ 57) by omega) with c0 | c0 | ⟨hx0, hx1⟩
      · go_wp2
        go_ret2
        exact ⟨⟨_, _, rfl⟩, rfl, rfl, rfl, Nat.le_refl _, fun _ _ => rfl⟩
      · go_wp2
        go_ret2
        exact ⟨⟨_, _, rfl⟩, rfl, rfl, rfl, Nat.le_refl _, fun _ _ => rfl⟩
      · rcases (show n < -922337203685477580 ∨ (n = -922337203685477580 ∧ 8 < X - 48) ∨ (n = -922337203685477580 ∧ ¬ 8 < X - 48) ∨ (¬ n < -922337203685477580 ∧ n ≠ -922337203685477580) by omega) with c1 | ⟨rfl, c2⟩ | ⟨rfl, c2⟩ | ⟨c1, c2⟩
        · go_wp2
          go_ret2
          exact ⟨⟨_, _, rfl⟩, rfl, rfl, rfl, Nat.le_refl _, fun _ _ => rfl⟩
        · go_wp2
          go_ret2
          exact ⟨⟨_, _, rfl⟩, rfl, rfl, rfl, Nat.le_refl _, fun _ _ => rfl⟩
        · go_wp2
          exact ⟨⟨i + 1, _, rfl, by go_num, by omega, by omega, by omega, by simp⟩, by simp [intOf]; omega⟩
        · have hce : (n == -922337203685477580) = false := beq_eq_false_iff_ne.2 c2
          have hge : -9223372036854775808 ≤ n * 10 - (X - 48) := by omega
          have hge2 : -922337203685477579 ≤ n := by omega
          clear c2
          go_wp2
          exact ⟨⟨i + 1, _, rfl, by go_num, by omega, by omega, by omega, by simp⟩, by simp [intOf]; omega⟩
    · have hlz : (l.length : Int) ≤ (i : Int) := by omega
      have HG := HD.out n hn0 (by omega)
      go_wp2_with fail
      refine (HG _).mono ?_; rintro e w2 ⟨rfl, hb2⟩
      have HB2 := hid hb2
      clear hb2
      go_wp2_with fail
      go_ret2
      exact ⟨⟨_, _, rfl⟩, HB2.out⟩
set_option maxHeartbeats 4000000 in
set_option maxRecDepth 100000 in
/-- ref whole, at any text that does not begin with a minus -/
theorem some_0 (l : List UInt8) (w : World) (h0 : 0 < l.length) (hl : l.length ≤ 20) (h45 : l[0] ≠ 45) :
    Calls Tryd.prog 45 #[.string ⟨l.toArray⟩] w fun e w' => (∃ (V : Int) (F : Bool), e = .returned (.tuple #[.int .i64 V, .bool F])) ∧ Below w.heap.size w w' := by
  have HD : Hid (∀ n : Int, -9223372036854775808 ≤ n → n ≤ 9223372036854775807 → ∀ w, Calls Tryd.prog 33 #[.int .i64 n] w fun e w' => e = .returned (.string ⟨(Lib.itoa n).toArray⟩) ∧ Below w.heap.size w w') := fun n h1 h2 w => digits_any n w h1 h2
  have e45 := byte_is (l := l) (n := 0) (by omega) 45 45 rfl
  rw [decide_eq_false h45] at e45
  have hz0 : (0 : Int) < (l.length : Int) := by omega
  have hz1 : (l.length : Int) ≤ 20 := by omega
  have hze : ((0 : Int) == (l.length : Int)) = false := beq_eq_false_iff_ne.2 (by omega)
  clear h45
  go_enter Tryd.func45, Tryd.ntmps45
  go_wp2_with fail
  go_loopw [4, 6, 7] (fun v4 v6 _ W => ∃ (i : Nat) (n : Int), v4 = .int .i64 n ∧ v6 = .int .i64 i ∧ i ≤ l.length ∧ n ≤ 0 ∧ -9223372036854775808 ≤ n ∧ W = w) (fun _ v6 _ _ => l.length - (intOf v6).toNat)
  case atStart => exact ⟨0, 0, rfl, rfl, by omega, by decide, by decide, rfl⟩
  case round =>
    obtain ⟨i, n, rfl, rfl, hi, hn1, hn0, rfl⟩ := hrel
    by_cases hlt : i < l.length
    · have hlz : (i : Int) < (l.length : Int) := by omega
      obtain ⟨X, hX⟩ : ∃ X : Int, X = (l[i].toNat : Int) := ⟨_, rfl⟩
      have hB : ((((⟨l.toArray⟩ : ByteArray)[i]'(by simpa [ByteArray.size] using hlt)).toNat : Nat) : Int) = X := by rw [hX]; rfl
      have hxx : 0 ≤ X := by omega
      clear hX
      rcases (show X < 48 ∨ 57 < X ∨ (48 ≤ X ∧ X ≤ 57) by omega) with c0 | c0 | ⟨hx0, hx1⟩
      · go_wp2
        go_ret2
        exact ⟨⟨_, _, rfl⟩, rfl, rfl, rfl, Nat.le_refl _, fun _ _ => rfl⟩
      · go_wp2
        go_ret2
        exact ⟨⟨_, _, rfl⟩, rfl, rfl, rfl, Nat.le_refl _, fun _ _ => rfl⟩
      · rcases (show n < -922337203685477580 ∨ (n = -922337203685477580 ∧ 8 < X - 48) ∨ (n = -922337203685477580 ∧ ¬ 8 < X - 48) ∨ (¬ n < -922337203685477580 ∧ n ≠ -922337203685477580) by omega) with c1 | ⟨rfl, c2⟩ | ⟨rfl, c2⟩ | ⟨c1, c2⟩
        · go_wp2
          go_ret2
          exact ⟨⟨_, _, rfl⟩, rfl, rfl, rfl, Nat.le_refl _, fun _ _ => rfl⟩
        · go_wp2
          go_ret2
          exact ⟨⟨_, _, rfl⟩, rfl, rfl, rfl, Nat.le_refl _, fun _ _ => rfl⟩
        · go_wp2
          exact ⟨⟨i + 1, _, rfl, by go_num, by omega, by omega, by omega, by simp⟩, by simp [intOf]; omega⟩
        · have hce : (n == -922337203685477580) = false := beq_eq_false_iff_ne.2 c2
          have hge : -9223372036854775808 ≤ n * 10 - (X - 48) := by omega
          have hge2 : -922337203685477579 ≤ n := by omega
          clear c2
          go_wp2
          exact ⟨⟨i + 1, _, rfl, by go_num, by omega, by omega, by omega, by simp⟩, by simp [intOf]; omega⟩
    · have hlz : (l.length : Int) ≤ (i : Int) := by omega
      by_cases hm : n = -9223372036854775808
      · subst hm
        go_wp2
        go_ret2
        exact ⟨⟨_, _, rfl⟩, rfl, rfl, rfl, Nat.le_refl _, fun _ _ => rfl⟩
      · have hme : (n == -9223372036854775808) = false := beq_eq_false_iff_ne.2 hm
        have hn2 : -9223372036854775807 ≤ n := by omega
        have HG := HD.out (-n) (by omega) (by omega)
        clear hm
        go_wp2_with fail
        refine (HG _).mono ?_; rintro e w2 ⟨rfl, hb2⟩
        have HB2 := hid hb2
        clear hb2
        go_wp2_with fail
        go_ret2
        exact ⟨⟨_, _, rfl⟩, HB2.out⟩
set_option maxHeartbeats 1000000 in
set_option maxRecDepth 100000 in
theorem some_none (l : List UInt8) (w : World) (h : l = [] ∨ l = [45]) :
    Calls Tryd.prog 45 #[.string ⟨l.toArray⟩] w fun e w' => (∃ (V : Int) (F : Bool), e = .returned (.tuple #[.int .i64 V, .bool F])) ∧ Below w.heap.size w w' := by
  rcases h with rfl | rfl
  · go_enter Tryd.func45, Tryd.ntmps45
    go_wp2
    go_ret2
    exact ⟨⟨_, _, rfl⟩, Below.refl _ _⟩
  · have e45 := byte_is (l := [45]) (n := 0) (by decide) 45 45 rfl
    rw [decide_eq_true (show ([45] : List UInt8)[0] = 45 from rfl)] at e45
    go_enter Tryd.func45, Tryd.ntmps45
    go_wp2
    go_ret2
    exact ⟨⟨_, _, rfl⟩, Below.refl _ _⟩
theorem whole_some (l : List UInt8) (w : World) (hb : l.length ≤ 140737488351232) :
    Calls Tryd.prog 45 #[.string ⟨l.toArray⟩] w fun e w' => (∃ (V : Int) (F : Bool), e = .returned (.tuple #[.int .i64 V, .bool F])) ∧ Below w.heap.size w w' := by
  by_cases h20 : 20 < l.length
  · refine (whole_long l w h20 hb).mono ?_
    rintro e w' ⟨rfl, h⟩
    exact ⟨⟨_, _, rfl⟩, h⟩
  · match l, h20 with
    | [], _ => exact some_none [] w (.inl rfl)
    | c :: r, h20 =>
      by_cases hc : c = 45
      · match r, h20 with
        | [], _ => exact some_none [c] w (.inr (by rw [hc]))
        | d :: r, h20 => exact some_1 (c :: d :: r) w (by simp) (by omega) (by simpa using hc)
      · exact some_0 (c :: r) w (by simp) (by omega) (by simpa using hc)
set_option maxHeartbeats 1000000 in
set_option maxRecDepth 100000 in
theorem rWhole_some (l : List UInt8) (w : World) (hb : l.length ≤ 140737488351232) :
    Calls Tryd.prog 34 #[.string ⟨l.toArray⟩] w fun e w' => (∃ (V : Int) (F : Bool), e = .returned (.tuple #[.int .i64 V, .bool F])) ∧ Hid (Below w.heap.size w w') := by
  have HW := hid (whole_some l w hb)
  clear hb
  go_enter Tryd.func34, Tryd.ntmps34
  go_wp2_with fail
  refine HW.out.mono ?_; rintro e w2 ⟨⟨V, F, rfl⟩, hb2⟩
  have HB2 := hid hb2
  clear hb2
  go_wp2_with fail
  go_ret2
  exact ⟨⟨V, F, rfl⟩, HB2.out⟩
theorem rWhole_is (n : Int) (w : World) (h0 : -9223372036854775808 ≤ n) (h1 : n ≤ 9223372036854775807) :
    Calls Tryd.prog 34 #[.string ⟨(Lib.itoa n).toArray⟩] w fun e w' => e = .returned (.tuple #[.int .i64 n, .bool true]) ∧ Hid (Below w.heap.size w w') := by
  obtain ⟨a, b, c⟩ := itoa_formed n h0 h1
  have := rWhole_any (Lib.itoa n) w a (by have := itoa_len n h0 h1; omega)
  rwa [b, (tell_ok a b).1, c] at this

end Go.Proofs.YtenncfohifekhaaDoor
