/- The places that are meant, gone through: the document's Clamp. -/
import Derived.Test.YtmlnjcmkengkhaaClamp
namespace Go.Proofs.Ytmlnjcmkengkhaa
open Go.RowKit

/-- behind i places: the first that is meant, and the one behind the last -/
def InvC (F T : Int) (i a b : Int) : Prop := ((T < F ∨ i ≤ F) ∧ a = 0 ∧ b = 0) ∨ (F ≤ T ∧ F < i ∧ a = F ∧ (b = i ∧ i ≤ T + 1 ∨ b = T + 1 ∧ T + 1 ≤ i))
set_option maxHeartbeats 4000000 in
set_option maxRecDepth 100000 in
/-- ref Clamp -/
theorem rclamp_any (f t m : Int) (w : World) (f0 : -9223372036854775808 ≤ f) (f1 : f ≤ 9223372036854775807) (t0 : -9223372036854775808 ≤ t) (t1 : t ≤ 9223372036854775807) (m0 : -9223372036854775808 ≤ m) (m1 : m ≤ 9223372036854775807) :
    Calls Try.prog 33 #[.int .i64 f, .int .i64 t, .int .i64 m] w fun e w' => e = .returned (.tuple #[.int .i64 (clA f t m), .int .i64 (clB f t m)]) ∧ w' = w := by
  by_cases hm : m < 1
  · rw [show clA f t m = 0 from if_pos hm, show clB f t m = 0 from if_pos hm]
    go_enter Try.func33, Try.ntmps33
    go_wp2_with fail
    refine wp_loop_rounds 1 ?_
    rw [rounds_succ]
    go_wp2_with fail
    go_ret2
    exact ⟨rfl, rfl⟩
  · have e1 : clA f t m = if lstP t m < fstP f m then 0 else fstP f m := if_neg hm
    have e2 : clB f t m = if lstP t m < fstP f m then 0 else lstP t m + 1 := if_neg hm
    have hf : 0 ≤ f ∧ fstP f m = f ∨ f < 0 ∧ f + m < 0 ∧ fstP f m = 0 ∨ f < 0 ∧ 0 ≤ f + m ∧ fstP f m = f + m := by
      unfold fstP plc; by_cases h1 : f < 0
      · rw [if_pos h1]; split <;> omega
      · rw [if_neg h1]; split <;> omega
    have ht : 0 ≤ t ∧ t ≤ m - 1 ∧ lstP t m = t ∨ 0 ≤ t ∧ m - 1 < t ∧ lstP t m = m - 1 ∨ t < 0 ∧ lstP t m = t + m := by
      unfold lstP plc; by_cases h1 : t < 0
      · rw [if_pos h1]; split <;> omega
      · rw [if_neg h1]; split <;> omega
    rw [e1, e2]
    generalize fstP f m = F at *
    generalize lstP t m = T at *
    obtain ⟨A, hA⟩ : ∃ A, A = if T < F then 0 else F := ⟨_, rfl⟩
    obtain ⟨B, hB⟩ : ∃ B, B = if T < F then 0 else T + 1 := ⟨_, rfl⟩
    rw [← hA, ← hB]
    have HF := hid hf
    have HT := hid ht
    have HA := hid hA
    have HB := hid hB
    clear e1 e2 hf ht hA hB
    go_enter Try.func33, Try.ntmps33
    go_wp2_with fail
    go_loopw [8, 9, 10, 11, 12] (fun v8 v9 v10 _ _ W => ∃ i a b : Int, v8 = .int .i64 a ∧ v9 = .int .i64 b ∧ v10 = .int .i64 i ∧ 0 ≤ i ∧ i ≤ m ∧ Hid (InvC F T i a b) ∧ W = w) (fun _ _ v10 _ _ _ => (m - intOf v10).toNat)
    case atStart => exact ⟨0, 0, 0, rfl, rfl, rfl, by decide, by omega, .inl ⟨by have := HF.out; omega, rfl, rfl⟩, rfl⟩
    case round =>
      obtain ⟨i, a, b, rfl, rfl, rfl, hi0, him, HI, rfl⟩ := hrel
      by_cases hlt : i < m
      · have hlt' := hlt
        rcases (show (0 ≤ f ∧ f ≤ i) ∨ (0 ≤ f ∧ ¬ f < 0 ∧ ¬ f ≤ i) ∨ (¬ 0 ≤ f ∧ f < 0 ∧ f ≤ i - m) ∨ (¬ 0 ≤ f ∧ f < 0 ∧ ¬ f ≤ i - m) by omega) with ⟨c1, c2⟩ | ⟨c1, c2, c3⟩ | ⟨c1, c2, c3⟩ | ⟨c1, c2, c3⟩
        · rcases (show (0 ≤ t ∧ i ≤ t) ∨ (0 ≤ t ∧ ¬ t < 0 ∧ ¬ i ≤ t) ∨ (¬ 0 ≤ t ∧ t < 0 ∧ i - m ≤ t) ∨ (¬ 0 ≤ t ∧ t < 0 ∧ ¬ i - m ≤ t) by omega) with ⟨d1, d2⟩ | ⟨d1, d2, d3⟩ | ⟨d1, d2, d3⟩ | ⟨d1, d2, d3⟩
          · by_cases hb : b = 0
            · subst hb
              have HN : Hid (InvC F T (i + 1) i (i + 1)) := by
                have h1 := HI.out; have h2 := HF.out; have h3 := HT.out
                unfold InvC at h1
                unfold Hid InvC
                omega
              go_wp2
              exact ⟨⟨i + 1, i, i + 1, rfl, rfl, rfl, by omega, by omega, HN.out, by simp⟩, by simp [intOf]; omega⟩
            · have HN : Hid (InvC F T (i + 1) a (i + 1)) := by
                have h1 := HI.out; have h2 := HF.out; have h3 := HT.out
                unfold InvC at h1
                unfold Hid InvC
                omega
              have hbe : (b == 0) = false := beq_eq_false_iff_ne.2 hb
              clear hb
              go_wp2
              exact ⟨⟨i + 1, a, i + 1, rfl, rfl, rfl, by omega, by omega, HN.out, by simp⟩, by simp [intOf]; omega⟩
          · have HN : Hid (InvC F T (i + 1) a b) := by
              have h1 := HI.out; have h2 := HF.out; have h3 := HT.out
              unfold InvC at h1
              unfold Hid InvC
              omega
            go_wp2
            exact ⟨⟨i + 1, a, b, rfl, rfl, rfl, by omega, by omega, HN.out, by simp⟩, by simp [intOf]; omega⟩
          · by_cases hb : b = 0
            · subst hb
              have HN : Hid (InvC F T (i + 1) i (i + 1)) := by
                have h1 := HI.out; have h2 := HF.out; have h3 := HT.out
                unfold InvC at h1
                unfold Hid InvC
                omega
              go_wp2
              exact ⟨⟨i + 1, i, i + 1, rfl, rfl, rfl, by omega, by omega, HN.out, by simp⟩, by simp [intOf]; omega⟩
            · have HN : Hid (InvC F T (i + 1) a (i + 1)) := by
                have h1 := HI.out; have h2 := HF.out; have h3 := HT.out
                unfold InvC at h1
                unfold Hid InvC
                omega
              have hbe : (b == 0) = false := beq_eq_false_iff_ne.2 hb
              clear hb
              go_wp2
              exact ⟨⟨i + 1, a, i + 1, rfl, rfl, rfl, by omega, by omega, HN.out, by simp⟩, by simp [intOf]; omega⟩
          · have HN : Hid (InvC F T (i + 1) a b) := by
              have h1 := HI.out; have h2 := HF.out; have h3 := HT.out
              unfold InvC at h1
              unfold Hid InvC
              omega
            go_wp2
            exact ⟨⟨i + 1, a, b, rfl, rfl, rfl, by omega, by omega, HN.out, by simp⟩, by simp [intOf]; omega⟩
        · rcases (show (0 ≤ t ∧ i ≤ t) ∨ (0 ≤ t ∧ ¬ t < 0 ∧ ¬ i ≤ t) ∨ (¬ 0 ≤ t ∧ t < 0 ∧ i - m ≤ t) ∨ (¬ 0 ≤ t ∧ t < 0 ∧ ¬ i - m ≤ t) by omega) with ⟨d1, d2⟩ | ⟨d1, d2, d3⟩ | ⟨d1, d2, d3⟩ | ⟨d1, d2, d3⟩
          · have HN : Hid (InvC F T (i + 1) a b) := by
              have h1 := HI.out; have h2 := HF.out; have h3 := HT.out
              unfold InvC at h1
              unfold Hid InvC
              omega
            go_wp2
            exact ⟨⟨i + 1, a, b, rfl, rfl, rfl, by omega, by omega, HN.out, by simp⟩, by simp [intOf]; omega⟩
          · have HN : Hid (InvC F T (i + 1) a b) := by
              have h1 := HI.out; have h2 := HF.out; have h3 := HT.out
              unfold InvC at h1
              unfold Hid InvC
              omega
            go_wp2
            exact ⟨⟨i + 1, a, b, rfl, rfl, rfl, by omega, by omega, HN.out, by simp⟩, by simp [intOf]; omega⟩
          · have HN : Hid (InvC F T (i + 1) a b) := by
              have h1 := HI.out; have h2 := HF.out; have h3 := HT.out
              unfold InvC at h1
              unfold Hid InvC
              omega
            go_wp2
            exact ⟨⟨i + 1, a, b, rfl, rfl, rfl, by omega, by omega, HN.out, by simp⟩, by simp [intOf]; omega⟩
          · have HN : Hid (InvC F T (i + 1) a b) := by
              have h1 := HI.out; have h2 := HF.out; have h3 := HT.out
              unfold InvC at h1
              unfold Hid InvC
              omega
            go_wp2
            exact ⟨⟨i + 1, a, b, rfl, rfl, rfl, by omega, by omega, HN.out, by simp⟩, by simp [intOf]; omega⟩
        · rcases (show (0 ≤ t ∧ i ≤ t) ∨ (0 ≤ t ∧ ¬ t < 0 ∧ ¬ i ≤ t) ∨ (¬ 0 ≤ t ∧ t < 0 ∧ i - m ≤ t) ∨ (¬ 0 ≤ t ∧ t < 0 ∧ ¬ i - m ≤ t) by omega) with ⟨d1, d2⟩ | ⟨d1, d2, d3⟩ | ⟨d1, d2, d3⟩ | ⟨d1, d2, d3⟩
          · by_cases hb : b = 0
            · subst hb
              have HN : Hid (InvC F T (i + 1) i (i + 1)) := by
                have h1 := HI.out; have h2 := HF.out; have h3 := HT.out
                unfold InvC at h1
                unfold Hid InvC
                omega
              go_wp2
              exact ⟨⟨i + 1, i, i + 1, rfl, rfl, rfl, by omega, by omega, HN.out, by simp⟩, by simp [intOf]; omega⟩
            · have HN : Hid (InvC F T (i + 1) a (i + 1)) := by
                have h1 := HI.out; have h2 := HF.out; have h3 := HT.out
                unfold InvC at h1
                unfold Hid InvC
                omega
              have hbe : (b == 0) = false := beq_eq_false_iff_ne.2 hb
              clear hb
              go_wp2
              exact ⟨⟨i + 1, a, i + 1, rfl, rfl, rfl, by omega, by omega, HN.out, by simp⟩, by simp [intOf]; omega⟩
          · have HN : Hid (InvC F T (i + 1) a b) := by
              have h1 := HI.out; have h2 := HF.out; have h3 := HT.out
              unfold InvC at h1
              unfold Hid InvC
              omega
            go_wp2
            exact ⟨⟨i + 1, a, b, rfl, rfl, rfl, by omega, by omega, HN.out, by simp⟩, by simp [intOf]; omega⟩
          · by_cases hb : b = 0
            · subst hb
              have HN : Hid (InvC F T (i + 1) i (i + 1)) := by
                have h1 := HI.out; have h2 := HF.out; have h3 := HT.out
                unfold InvC at h1
                unfold Hid InvC
                omega
              go_wp2
              exact ⟨⟨i + 1, i, i + 1, rfl, rfl, rfl, by omega, by omega, HN.out, by simp⟩, by simp [intOf]; omega⟩
            · have HN : Hid (InvC F T (i + 1) a (i + 1)) := by
                have h1 := HI.out; have h2 := HF.out; have h3 := HT.out
                unfold InvC at h1
                unfold Hid InvC
                omega
              have hbe : (b == 0) = false := beq_eq_false_iff_ne.2 hb
              clear hb
              go_wp2
              exact ⟨⟨i + 1, a, i + 1, rfl, rfl, rfl, by omega, by omega, HN.out, by simp⟩, by simp [intOf]; omega⟩
          · have HN : Hid (InvC F T (i + 1) a b) := by
              have h1 := HI.out; have h2 := HF.out; have h3 := HT.out
              unfold InvC at h1
              unfold Hid InvC
              omega
            go_wp2
            exact ⟨⟨i + 1, a, b, rfl, rfl, rfl, by omega, by omega, HN.out, by simp⟩, by simp [intOf]; omega⟩
        · rcases (show (0 ≤ t ∧ i ≤ t) ∨ (0 ≤ t ∧ ¬ t < 0 ∧ ¬ i ≤ t) ∨ (¬ 0 ≤ t ∧ t < 0 ∧ i - m ≤ t) ∨ (¬ 0 ≤ t ∧ t < 0 ∧ ¬ i - m ≤ t) by omega) with ⟨d1, d2⟩ | ⟨d1, d2, d3⟩ | ⟨d1, d2, d3⟩ | ⟨d1, d2, d3⟩
          · have HN : Hid (InvC F T (i + 1) a b) := by
              have h1 := HI.out; have h2 := HF.out; have h3 := HT.out
              unfold InvC at h1
              unfold Hid InvC
              omega
            go_wp2
            exact ⟨⟨i + 1, a, b, rfl, rfl, rfl, by omega, by omega, HN.out, by simp⟩, by simp [intOf]; omega⟩
          · have HN : Hid (InvC F T (i + 1) a b) := by
              have h1 := HI.out; have h2 := HF.out; have h3 := HT.out
              unfold InvC at h1
              unfold Hid InvC
              omega
            go_wp2
            exact ⟨⟨i + 1, a, b, rfl, rfl, rfl, by omega, by omega, HN.out, by simp⟩, by simp [intOf]; omega⟩
          · have HN : Hid (InvC F T (i + 1) a b) := by
              have h1 := HI.out; have h2 := HF.out; have h3 := HT.out
              unfold InvC at h1
              unfold Hid InvC
              omega
            go_wp2
            exact ⟨⟨i + 1, a, b, rfl, rfl, rfl, by omega, by omega, HN.out, by simp⟩, by simp [intOf]; omega⟩
          · have HN : Hid (InvC F T (i + 1) a b) := by
              have h1 := HI.out; have h2 := HF.out; have h3 := HT.out
              unfold InvC at h1
              unfold Hid InvC
              omega
            go_wp2
            exact ⟨⟨i + 1, a, b, rfl, rfl, rfl, by omega, by omega, HN.out, by simp⟩, by simp [intOf]; omega⟩
      · obtain ⟨rfl, rfl⟩ : A = a ∧ B = b := by
          have h1 := HI.out; have h2 := HF.out; have h3 := HT.out
          unfold InvC at h1
          rw [HA.out, HB.out]
          by_cases hc : T < F
          · rw [if_pos hc, if_pos hc]; omega
          · rw [if_neg hc, if_neg hc]; omega
        go_wp2
        go_ret2
        exact ⟨rfl, rfl⟩

end Go.Proofs.Ytmlnjcmkengkhaa
