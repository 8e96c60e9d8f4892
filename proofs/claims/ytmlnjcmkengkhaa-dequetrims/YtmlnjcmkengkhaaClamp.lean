/- The stretch of a row that two places mean: the program's and the document's. -/
import Derived.Test.YtmlnjcmkengkhaaCore
namespace Go.Proofs.Ytmlnjcmkengkhaa
open Go.RowKit

/-- a place, counted from the front -/
def plc (n m : Int) : Int := if n < 0 then n + m else n
/-- the first place, and the last one -/
def fstP (f m : Int) : Int := if plc f m < 0 then 0 else plc f m
def lstP (t m : Int) : Int := if m - 1 < plc t m then m - 1 else plc t m
def clA (f t m : Int) : Int := if m < 1 then 0 else if lstP t m < fstP f m then 0 else fstP f m
def clB (f t m : Int) : Int := if m < 1 then 0 else if lstP t m < fstP f m then 0 else lstP t m + 1
set_option maxHeartbeats 1000000 in
set_option maxRecDepth 100000 in
/-- place -/
theorem place_any (n m : Int) (w : World) (n0 : -9223372036854775808 ≤ n) (n1 : n ≤ 9223372036854775807) (m0 : 1 ≤ m) (m1 : m ≤ 9223372036854775807) :
    Calls Try.prog 31 #[.int .i64 n, .int .i64 m] w fun e w' => e = .returned (.int .i64 (plc n m)) ∧ w' = w := by
  by_cases h : n < 0
  · rw [show plc n m = n + m from if_pos h]
    go_enter Try.func31, Try.ntmps31
    go_wp2
    go_ret
    exact ⟨rfl, rfl⟩
  · rw [show plc n m = n from if_neg h]
    go_enter Try.func31, Try.ntmps31
    go_wp2
    go_ret
    exact ⟨rfl, rfl⟩
theorem ret_two {a b a' b' : Int} (h1 : a = a') (h2 : b = b') : Ending.returned (.tuple #[.int .i64 a, .int .i64 b]) = .returned (.tuple #[.int .i64 a', .int .i64 b']) := by rw [h1, h2]
set_option maxHeartbeats 1000000 in
set_option maxRecDepth 100000 in
/-- Clamp -/
theorem clamp_any (f t m : Int) (w : World) (f0 : -9223372036854775808 ≤ f) (f1 : f ≤ 9223372036854775807) (t0 : -9223372036854775808 ≤ t) (t1 : t ≤ 9223372036854775807) (m0 : -9223372036854775808 ≤ m) (m1 : m ≤ 9223372036854775807) :
    Calls Try.prog 21 #[.int .i64 f, .int .i64 t, .int .i64 m] w fun e w' => e = .returned (.tuple #[.int .i64 (clA f t m), .int .i64 (clB f t m)]) ∧ w' = w := by
  by_cases hm : m < 1
  · rw [show clA f t m = 0 from if_pos hm, show clB f t m = 0 from if_pos hm]
    go_enter Try.func21, Try.ntmps21
    go_wp2
    go_ret2
    exact ⟨rfl, rfl⟩
  · have e1 : clA f t m = if lstP t m < fstP f m then 0 else fstP f m := if_neg hm
    have e2 : clB f t m = if lstP t m < fstP f m then 0 else lstP t m + 1 := if_neg hm
    rw [e1, e2]
    have HF := hid (fun w => place_any f m w f0 f1 (by omega) m1)
    have HT := hid (fun w => place_any t m w t0 t1 (by omega) m1)
    have hf : fstP f m = if plc f m < 0 then 0 else plc f m := rfl
    have ht : lstP t m = if m - 1 < plc t m then m - 1 else plc t m := rfl
    have pf1 : plc f m ≤ 9223372036854775807 := by unfold plc; split <;> omega
    have pf0 : -9223372036854775808 ≤ plc f m := by unfold plc; split <;> omega
    have pt1 : plc t m ≤ 9223372036854775807 := by unfold plc; split <;> omega
    have pt0 : -9223372036854775808 ≤ plc t m := by unfold plc; split <;> omega
    generalize plc f m = F at *
    generalize plc t m = T at *
    generalize fstP f m = F2 at *
    generalize lstP t m = T2 at *
    clear e1 e2
    by_cases hF : F < 0
    all_goals by_cases hT : m - 1 < T
    all_goals simp only [hF, hT, if_true, if_false] at hf ht
    · rw [hf, ht]; clear hf ht
      by_cases hc : m - 1 < 0
      · rw [if_pos hc, if_pos hc]
        go_enter Try.func21, Try.ntmps21
        go_wp2_with fail
        refine (HF.out _).mono ?_; rintro e w1 ⟨rfl, rfl⟩
        go_wp2_with fail
        refine (HT.out _).mono ?_; rintro e w1 ⟨rfl, rfl⟩
        go_wp2_with fail
        all_goals go_ret2
        all_goals first | exact ⟨rfl, rfl⟩ | exact ⟨ret_two (by omega) (by omega), rfl⟩
      · rw [if_neg hc, if_neg hc]
        go_enter Try.func21, Try.ntmps21
        go_wp2_with fail
        refine (HF.out _).mono ?_; rintro e w1 ⟨rfl, rfl⟩
        go_wp2_with fail
        refine (HT.out _).mono ?_; rintro e w1 ⟨rfl, rfl⟩
        go_wp2_with fail
        all_goals go_ret2
        all_goals first | exact ⟨rfl, rfl⟩ | exact ⟨ret_two (by omega) (by omega), rfl⟩
    · rw [hf, ht]; clear hf ht
      by_cases hc : T < 0
      · rw [if_pos hc, if_pos hc]
        go_enter Try.func21, Try.ntmps21
        go_wp2_with fail
        refine (HF.out _).mono ?_; rintro e w1 ⟨rfl, rfl⟩
        go_wp2_with fail
        refine (HT.out _).mono ?_; rintro e w1 ⟨rfl, rfl⟩
        go_wp2_with fail
        all_goals go_ret2
        all_goals first | exact ⟨rfl, rfl⟩ | exact ⟨ret_two (by omega) (by omega), rfl⟩
      · rw [if_neg hc, if_neg hc]
        go_enter Try.func21, Try.ntmps21
        go_wp2_with fail
        refine (HF.out _).mono ?_; rintro e w1 ⟨rfl, rfl⟩
        go_wp2_with fail
        refine (HT.out _).mono ?_; rintro e w1 ⟨rfl, rfl⟩
        go_wp2_with fail
        all_goals go_ret2
        all_goals first | exact ⟨rfl, rfl⟩ | exact ⟨ret_two (by omega) (by omega), rfl⟩
    · rw [hf, ht]; clear hf ht
      by_cases hc : m - 1 < F
      · rw [if_pos hc, if_pos hc]
        go_enter Try.func21, Try.ntmps21
        go_wp2_with fail
        refine (HF.out _).mono ?_; rintro e w1 ⟨rfl, rfl⟩
        go_wp2_with fail
        refine (HT.out _).mono ?_; rintro e w1 ⟨rfl, rfl⟩
        go_wp2_with fail
        all_goals go_ret2
        all_goals first | exact ⟨rfl, rfl⟩ | exact ⟨ret_two (by omega) (by omega), rfl⟩
      · rw [if_neg hc, if_neg hc]
        go_enter Try.func21, Try.ntmps21
        go_wp2_with fail
        refine (HF.out _).mono ?_; rintro e w1 ⟨rfl, rfl⟩
        go_wp2_with fail
        refine (HT.out _).mono ?_; rintro e w1 ⟨rfl, rfl⟩
        go_wp2_with fail
        all_goals go_ret2
        all_goals first | exact ⟨rfl, rfl⟩ | exact ⟨ret_two (by omega) (by omega), rfl⟩
    · rw [hf, ht]; clear hf ht
      by_cases hc : T < F
      · rw [if_pos hc, if_pos hc]
        go_enter Try.func21, Try.ntmps21
        go_wp2_with fail
        refine (HF.out _).mono ?_; rintro e w1 ⟨rfl, rfl⟩
        go_wp2_with fail
        refine (HT.out _).mono ?_; rintro e w1 ⟨rfl, rfl⟩
        go_wp2_with fail
        all_goals go_ret2
        all_goals first | exact ⟨rfl, rfl⟩ | exact ⟨ret_two (by omega) (by omega), rfl⟩
      · rw [if_neg hc, if_neg hc]
        go_enter Try.func21, Try.ntmps21
        go_wp2_with fail
        refine (HF.out _).mono ?_; rintro e w1 ⟨rfl, rfl⟩
        go_wp2_with fail
        refine (HT.out _).mono ?_; rintro e w1 ⟨rfl, rfl⟩
        go_wp2_with fail
        all_goals go_ret2
        all_goals first | exact ⟨rfl, rfl⟩ | exact ⟨ret_two (by omega) (by omega), rfl⟩

end Go.Proofs.Ytmlnjcmkengkhaa
