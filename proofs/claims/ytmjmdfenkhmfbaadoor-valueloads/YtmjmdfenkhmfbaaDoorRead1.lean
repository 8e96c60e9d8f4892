/- The document's signed; values read, all but hashes. -/
import Derived.Test.YtmjmdfenkhmfbaaDoorReader
namespace Go.Proofs.YtmjmdfenkhmfbaaDoor
open Go.RowKit

theorem at2_is {s : Nm} {i : Nat} (h : i + 2 ≤ s.length) : at2 s i = (num2 (s.getD i 0) (s.getD (i + 1) 0) : Int) := if_pos h
set_option maxHeartbeats 1000000 in
set_option maxRecDepth 100000 in
/-- ref signed -/
theorem signed_any (s : Nm) (i : Nat) (w : World) (hs : s.length ≤ 281474976710656) (h : i + 4 ≤ s.length) :
    Calls Tryd.prog 63 #[txt s, .int .i64 (i : Int)] w fun e w' => e = .returned (.int .i64 (sgn (s.getD i 0) (s.getD (i + 1) 0) (s.getD (i + 2) 0) (s.getD (i + 3) 0))) ∧ Hid (Below w.heap.size w w') := by
  have H1 := hid (fun W => at_any s i W hs (by omega))
  have H2 := hid (fun W => at_any s (i + 2) W hs (by omega))
  rw [at2_is (by omega)] at H1 H2
  rw [show i + 2 + 1 = i + 3 by omega] at H2
  have n1 := num2_lt (s.getD i 0) (s.getD (i + 1) 0)
  have n2 := num2_lt (s.getD (i + 2) 0) (s.getD (i + 3) 0)
  unfold sgn
  generalize num2 (s.getD i 0) (s.getD (i + 1) 0) = A at *
  generalize num2 (s.getD (i + 2) 0) (s.getD (i + 3) 0) = B at *
  have hiz : (i : Int) ≤ 281474976710656 := by omega
  have ea : ((i + 2 : Nat) : Int) = (i : Int) + 2 := by omega
  rw [ea] at H2
  obtain ⟨X, hX⟩ : ∃ X : Int, X = (A : Int) * 65536 + (B : Int) := ⟨_, rfl⟩
  by_cases hc : A * 65536 + B ≥ 2147483648
  · rw [if_pos hc, show ((A * 65536 + B : Nat) : Int) - 4294967296 = X - 4294967296 by omega]
    have hXe : (A : Int) * 65536 + (B : Int) = X := hX.symm
    have a1 : (A : Int) < 65536 := by omega
    have b1 : (B : Int) < 65536 := by omega
    have hX1 : 2147483648 ≤ X := by omega
    have hX2 : X < 4294967296 := by omega
    clear hX hc n1 n2 ea
    generalize (A : Int) = a at *
    generalize (B : Int) = b at *
    go_enter Tryd.func63, Tryd.ntmps63
    go_wp2_with fail
    refine (H1.out _).mono ?_; rintro e w1 ⟨rfl, hh⟩
    have HW1 := hid hh.out
    clear hh
    go_wp2_with fail
    refine (H2.out _).mono ?_; rintro e w2 ⟨rfl, hh⟩
    have HW2 := hid (HW1.out.trans (hh.out.mono HW1.out.size))
    clear hh
    go_wp2_with fail
    go_ret
    exact ⟨rfl, HW2.out⟩
  · rw [if_neg hc, show ((A * 65536 + B : Nat) : Int) = X by omega]
    have hXe : (A : Int) * 65536 + (B : Int) = X := hX.symm
    have a1 : (A : Int) < 65536 := by omega
    have b1 : (B : Int) < 65536 := by omega
    have hX1 : X < 2147483648 := by omega
    have hX2 : 0 ≤ X := by omega
    clear hX hc n1 n2 ea
    generalize (A : Int) = a at *
    generalize (B : Int) = b at *
    go_enter Tryd.func63, Tryd.ntmps63
    go_wp2_with fail
    refine (H1.out _).mono ?_; rintro e w1 ⟨rfl, hh⟩
    have HW1 := hid hh.out
    clear hh
    go_wp2_with fail
    refine (H2.out _).mono ?_; rintro e w2 ⟨rfl, hh⟩
    have HW2 := hid (HW1.out.trans (hh.out.mono HW1.out.size))
    clear hh
    go_wp2_with fail
    go_ret
    exact ⟨rfl, HW2.out⟩
set_option maxHeartbeats 2000000 in
set_option maxRecDepth 100000 in
/-- bytes that are too few -/
theorem read_o (s : Nm) (w : World) (hs : s.length ≤ 281474976710656) (h1 : 1 ≤ s.length) (h3 : s.length < 3) :
    Calls Tryd.prog 41 #[txt s] w fun e w' => e = .returned (vv zeroV none 0 none 0) ∧ Hid (Below w.heap.size w w') := by
  have HAt := hid (fun W => at_any s 1 W hs (by omega))
  have hB0 : ((((⟨s.toArray⟩ : ByteArray)[0]'(by simp [ByteArray.size]; omega)).toNat : Nat) : Int) = (s[0].toNat : Int) := rfl
  have hsz : (s.length : Int) ≤ 281474976710656 := by omega
  have h1z : (1 : Int) ≤ (s.length : Int) := by omega
  have h0z : (0 : Int) < (s.length : Int) := by omega
  have HA := hid (al_two w (vob zeroV none 0 none 0) (vob ⟨s[0].toNat, [], [], [], 0, 0⟩ none 0 none 0))
  rw [show at2 s 1 = -1 from if_neg (by omega)] at HAt
  have x0 : (s[0].toNat : Int) < 256 := by have := s[0].toNat_lt; omega
  have x1 : (0 : Int) ≤ (s[0].toNat : Int) := by omega
  generalize (s[0].toNat : Int) = X at *
  go_enter Tryd.func41, Tryd.ntmps41
  go_wp2_with fail
  refine (HAt.out _).mono ?_; rintro e w1 ⟨rfl, hh⟩
  have HZ := hid ((hh.out.block w.heap.size (by simp; omega)).trans HA.out.2.1)
  have HW := hid (HA.out.1.trans (hh.out.mono HA.out.1.size))
  clear hh
  obtain ⟨c0, c1, c2, c3, c4, c5⟩ := val_facts HZ.out
  obtain ⟨g0, g1, g2, g3, g4, g5⟩ := val_frozen HZ.out
  go_wp2_with fail
  refine bodyPost_ret (v := vv zeroV none 0 none 0) (ret_val rfl rfl (set_six HZ.out HW.out (Nat.le_refl _)).1) rfl ⟨rfl, (set_six HZ.out HW.out (Nat.le_refl _)).2⟩

end Go.Proofs.YtmjmdfenkhmfbaaDoor
