/- What stands behind an argument's bytes, place by place: plain mathematics. -/
import Derived.Test.YtjcegiponjpjiabDoorModel
import Derived.Test.YtjcegiponjpjiabDoorSize
namespace Go.Proofs.YtjcegiponjpjiabDoor

theorem end_ways {s : List UInt8} {K n M M1 : Nat} (hK : K ≤ s.length) (hM : M = K + n) (hM1 : M1 = M + 1) :
    (s.length ≤ M ∧ endVal (s.drop K) n = -1) ∨
    (∃ h : M < s.length, s[M] ≠ 13 ∧ endVal (s.drop K) n = 34) ∨
    (∃ h : M < s.length, s[M] = 13 ∧ s.length = M1 ∧ endVal (s.drop K) n = -1) ∨
    (∃ h : M1 < s.length, s[M] = 13 ∧ s[M1] ≠ 10 ∧ endVal (s.drop K) n = 34) ∨
    (∃ h : M1 < s.length, s[M] = 13 ∧ s[M1] = 10 ∧ endVal (s.drop K) n = 0) := by
  subst hM1
  subst hM
  have hl : (s.drop K).length = s.length - K := by simp
  by_cases h0 : s.length < K + n
  · exact .inl ⟨by omega, endVal_short (by omega)⟩
  · have hns : ¬ (s.drop K).length < n := by omega
    have hdd : (s.drop K).drop n = s.drop (K + n) := by rw [List.drop_drop]
    by_cases h1 : s.length = K + n
    · refine .inl ⟨by omega, endVal_more hns ?_ (by omega)⟩
      rw [hdd, List.drop_eq_nil_of_le (by omega)]; rfl
    · have h2 : K + n < s.length := by omega
      have hd1 : s.drop (K + n) = s[K + n] :: s.drop (K + n + 1) := List.drop_eq_getElem_cons h2
      by_cases h3 : s.length = K + n + 1
      · have hd2 : s.drop (K + n + 1) = [] := List.drop_eq_nil_of_le (by omega)
        by_cases h13 : s[K + n] = 13
        · refine .inr (.inr (.inl ⟨h2, h13, h3, endVal_more hns ?_ (by omega)⟩))
          rw [hdd, hd1, hd2, h13]; rfl
        · refine .inr (.inl ⟨h2, h13, endVal_bad hns ?_⟩)
          rw [hdd, hd1, hd2]
          simp [Lib.hasPrefix, List.isPrefixOf, h13]
      · have h4 : K + n + 1 < s.length := by omega
        have hd2 : s.drop (K + n + 1) = s[K + n + 1] :: s.drop (K + n + 1 + 1) := List.drop_eq_getElem_cons h4
        by_cases h13 : s[K + n] = 13
        · by_cases h10 : s[K + n + 1] = 10
          · refine .inr (.inr (.inr (.inr ⟨h4, h13, h10, endVal_ok hns ?_ (by omega)⟩)))
            rw [hdd, hd1, hd2, h13, h10]; rfl
          · refine .inr (.inr (.inr (.inl ⟨h4, h13, h10, endVal_bad hns ?_⟩)))
            rw [hdd, hd1, hd2]
            show Lib.hasPrefix [13, 10] [s[K + n], s[K + n + 1]] = false
            generalize s[K + n + 1] = y at h10
            simp [Lib.hasPrefix, List.isPrefixOf, h10]
        · refine .inr (.inl ⟨h2, h13, endVal_bad hns ?_⟩)
          rw [hdd, hd1, hd2]
          show Lib.hasPrefix [13, 10] [s[K + n], s[K + n + 1]] = false
          generalize s[K + n] = x at h13
          simp [Lib.hasPrefix, List.isPrefixOf, h13]

end Go.Proofs.YtjcegiponjpjiabDoor
