/- Values in memory. -/
import Derived.Test.YtmjmdfenkhmfbaaDoorCrcRef
import Derived.Test.YtmjmdfenkhmfbaaDoorRefRight
namespace Go.Proofs.YtmjmdfenkhmfbaaDoor
open Go.RowKit

set_option maxHeartbeats 1000000 in
set_option maxRecDepth 100000 in
/-- ref fits -/
theorem fits_any (p : Option Addr) (c : Nat) (l : Row) (w : World) (h : Strs w p l) (hl : l.length ≤ 1000000) (ht : ∀ x ∈ l, x.length ≤ 9223372036854775807) :
    Calls Tryd.prog 29 #[.slice p l.length c] w fun e w' => e = .returned (.bool (fitsB l)) ∧ w' = w := by
  have H := hid h
  have HT := hid ht
  have hlz : (l.length : Int) ≤ 1000000 := by omega
  obtain ⟨V, hV⟩ : ∃ V, V = fitsB l := ⟨_, rfl⟩
  rw [← hV]
  have HV := hid hV
  clear h ht hV
  go_enter Tryd.func29, Tryd.ntmps29
  go_wp2_with fail
  go_loopw [3] (fun v3 W => ∃ k : Nat, v3 = .int .i64 k ∧ k ≤ l.length ∧ Hid (∀ x ∈ l.take k, x.length ≤ 1024) ∧ W = w) (fun v3 _ => l.length - (intOf v3).toNat)
  case atStart => exact ⟨0, rfl, Nat.zero_le _, by simp [Hid], rfl⟩
  case round =>
    obtain ⟨k, rfl, hk, HK, rfl⟩ := hrel
    by_cases hlt : k < l.length
    · have hkz : (k : Int) < (l.length : Int) := by omega
      obtain ⟨b, o, rfl, hc⟩ := H.out (fun e => by rw [e] at hlt; simp at hlt)
      have x0 := hc k hlt
      have HS : Hid (l.take (k + 1) = l.take k ++ [l[k]]) := List.take_succ_eq_append_getElem hlt
      have HIn : Hid (l[k] ∈ l) := List.getElem_mem hlt
      have hxl := HT.out _ HIn.out
      generalize l[k] = t at *
      clear hc
      have hxz : (t.length : Int) ≤ 9223372036854775807 := by omega
      by_cases e : (1024 : Int) < (t.length : Int)
      · obtain rfl : V = false := HV.out.trans (fitsB_no fun h => absurd (h.1 _ HIn.out) (by omega))
        go_wp2_with fail
        go_ret
        exact ⟨rfl, rfl⟩
      · have HK2 : Hid (∀ x ∈ l.take (k + 1), x.length ≤ 1024) := by
          show ∀ x ∈ l.take (k + 1), _
          rw [HS.out]
          intro x hx
          rcases List.mem_append.1 hx with hx | hx
          · exact HK.out x hx
          · rw [List.mem_singleton.1 hx]; omega
        go_wp2_with fail
        exact ⟨⟨k + 1, by go_num, by omega, HK2.out, trivial⟩, by simp [intOf]; omega⟩
    · have HA : Hid (∀ x ∈ l, x.length ≤ 1024) := by have := HK.out; rwa [List.take_of_length_le (by omega)] at this
      by_cases h1 : (1 : Int) ≤ (l.length : Int)
      · by_cases h2 : (l.length : Int) ≤ 256
        · obtain rfl : V = true := HV.out.trans (fitsB_yes ⟨HA.out, by omega, by omega⟩)
          go_wp2_with fail
          go_ret
          exact ⟨rfl, rfl⟩
        · obtain rfl : V = false := HV.out.trans (fitsB_no fun h => absurd h.2.2 (by omega))
          go_wp2_with fail
          go_ret
          exact ⟨rfl, rfl⟩
      · obtain rfl : V = false := HV.out.trans (fitsB_no fun h => absurd h.2.1 (by omega))
        go_wp2_with fail
        go_ret
        exact ⟨rfl, rfl⟩

end Go.Proofs.YtmjmdfenkhmfbaaDoor
