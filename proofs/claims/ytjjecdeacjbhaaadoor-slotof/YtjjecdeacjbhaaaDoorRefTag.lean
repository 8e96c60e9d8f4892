/- What of a key counts, by the document: ref Tag. -/
import Derived.Test.YtjjecdeacjbhaaaDoorAlive
namespace Go.Proofs.YtjjecdeacjbhaaaDoor
open Go.RowKit
open Slot

theorem not_mem_take {c : UInt8} {l : List UInt8} {k : Nat} (h : k < l.length) (h1 : c ∉ l.take k) (h2 : l[k] ≠ c) : c ∉ l.take (k + 1) := by
  rw [List.take_succ_eq_append_getElem h]
  intro m
  rcases List.mem_append.1 m with m | m
  · exact h1 m
  · exact h2 (List.mem_singleton.1 m).symm
theorem split_at {l : List UInt8} {k : Nat} (h : k < l.length) : l = l.take k ++ l[k] :: l.drop (k + 1) := by
  rw [← List.drop_eq_getElem_cons h, List.take_append_drop]

theorem byte_is {l : List UInt8} {n : Nat} (h : n < l.length) (c : UInt8) (z : Int) (hz : (c.toNat : Int) = z) : ((((⟨l.toArray⟩ : ByteArray)[n]'(by simpa [ByteArray.size] using h)).toNat : Int) == z) = decide (l[n] = c) := by
  subst hz
  have e : ((⟨l.toArray⟩ : ByteArray)[n]'(by simpa [ByteArray.size] using h)) = l[n] := rfl
  rw [e]
  by_cases hc : l[n] = c
  · simp [hc]
  · rw [decide_eq_false hc, beq_eq_false_iff_ne]
    intro h2
    exact hc (UInt8.toNat_inj.1 (by omega))
theorem extract_str {l : List UInt8} {a b : Nat} : ((⟨l.toArray⟩ : ByteArray).extract a b) = ⟨((l.take b).drop a).toArray⟩ := by
  rw [Lib.extract_eq]
  simp [List.drop_take]
set_option maxHeartbeats 1000000 in
set_option maxRecDepth 100000 in
theorem rTag_any (l : List UInt8) (w : World) (hl : l.length ≤ 9223372036854775806) :
    Calls Tryd.prog 11 #[.string ⟨l.toArray⟩] w fun e w' => e = .returned (.string ⟨(tag l).toArray⟩) ∧ w' = w := by
  go_enter Tryd.func11, Tryd.ntmps11
  go_wp2
  go_loop [3, 4] (fun i _ => ∃ n : Nat, n ≤ l.length ∧ i = .int .i64 n ∧ Hid ((123 : UInt8) ∉ l.take n)) (fun i _ => l.length - (intOf i).toNat)
  case atStart => exact ⟨0, Nat.zero_le _, rfl, by simp [Hid]⟩
  case round =>
    obtain ⟨n, hn, rfl, HN⟩ := hrel
    by_cases hlt : n < l.length
    · have hby := byte_is hlt 123 123 (by decide)
      by_cases hc : l[n] = 123
      · rw [decide_eq_true hc] at hby
        have HS : Hid (l = l.take n ++ 123 :: l.drop (n + 1)) := by rw [← hc]; exact split_at hlt
        clear hc
        go_wp2
        go_loop [4] (fun i => ∃ k : Nat, n + 1 ≤ k ∧ k ≤ l.length ∧ i = .int .i64 k ∧ Hid ((125 : UInt8) ∉ (l.take k).drop (n + 1))) (fun i => l.length - (intOf i).toNat)
        case atStart => exact ⟨n + 1, Nat.le_refl _, by omega, by go_num, by unfold Hid; rw [List.drop_eq_nil_of_le (by simp; omega)]; simp⟩
        case round =>
          obtain ⟨k, hk1, hk2, rfl, HK⟩ := hrel
          by_cases hlk : k < l.length
          · have hbk := byte_is hlk 125 125 (by decide)
            by_cases hck : l[k] = 125
            · rw [decide_eq_true hck] at hbk
              have HR : Hid (l.drop (n + 1) = (l.take k).drop (n + 1) ++ 125 :: l.drop (k + 1)) := by
                have := split_at hlk
                rw [hck] at this
                have h2 := congrArg (List.drop (n + 1)) this
                rw [List.drop_append_of_le_length (by simp; omega)] at h2
                exact h2
              clear hck
              by_cases hgt : n + 1 < k
              · have HT : Hid (tag l = (l.take k).drop (n + 1)) := by
                  have hne : (l.take k).drop (n + 1) ≠ [] := fun e => by
                    have := congrArg List.length e
                    simp at this; omega
                  have h1 := HS.out
                  rw [HR.out] at h1
                  unfold Hid
                  conv => lhs; rw [h1]
                  exact tag_in HN.out HK.out hne
                go_wp2
                go_ret
                exact ⟨by rw [HT.out, extract_str]; rfl, rfl⟩
              · have HT : Hid (tag l = l) := by
                  have h0 : (l.take k).drop (n + 1) = [] := List.drop_eq_nil_of_le (by simp; omega)
                  have h1 := HS.out
                  rw [HR.out, h0, List.nil_append] at h1
                  unfold Hid
                  rw [h1]
                  exact tag_empty HN.out
                go_wp2
                go_ret
                exact ⟨ret_str HT.out.symm, rfl⟩
            · rw [decide_eq_false hck] at hbk
              have HK1 : Hid ((125 : UInt8) ∉ (l.take (k + 1)).drop (n + 1)) := by
                unfold Hid
                rw [List.take_succ_eq_append_getElem hlk, List.drop_append_of_le_length (by simp; omega)]
                intro m
                rcases List.mem_append.1 m with m | m
                · exact HK.out m
                · exact hck (List.mem_singleton.1 m).symm
              clear hck
              go_wp2
              go_round
              case rel => exact ⟨k + 1, by omega, by omega, by go_num, HK1.out⟩
              case measure => simp [intOf]; omega
          · have HT : Hid (tag l = l) := by
              have h1 := HS.out
              have h2 := HK.out
              rw [List.take_of_length_le (by omega)] at h2
              unfold Hid
              rw [h1]
              exact tag_open HN.out h2
            go_wp2
            go_ret
            exact ⟨ret_str HT.out.symm, rfl⟩
      · rw [decide_eq_false hc] at hby
        have HN1 := hid (not_mem_take hlt HN.out hc)
        clear hc
        go_wp2
        go_round
        case rel => exact ⟨n + 1, by omega, by go_num, HN1.out⟩
        case measure => simp [intOf]; omega
    · have HT : Hid (tag l = l) := by
        have h2 := HN.out
        rw [List.take_of_length_le (by omega)] at h2
        exact tag_plain h2
      go_wp2
      go_ret
      exact ⟨ret_str HT.out.symm, rfl⟩

end Go.Proofs.YtjjecdeacjbhaaaDoor
