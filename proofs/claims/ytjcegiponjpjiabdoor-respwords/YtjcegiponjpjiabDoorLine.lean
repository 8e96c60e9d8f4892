/- A line cut off: resp.cutLine. -/
import Derived.Test.YtjcegiponjpjiabDoorBytes
import Derived.Lib.IndexLaws
namespace Go.Proofs.YtjcegiponjpjiabDoor
open Go.RowKit

/-- the place of a line's 10 -/
def lineAt (s : List UInt8) : Option Nat := if Lib.indexByte (s.take 512) 10 = -1 then none else some (Lib.indexByte (s.take 512) 10).toNat
theorem lineAt_cases (s : List UInt8) : (lineAt s = none ∧ Lib.indexByte (s.take 512) 10 = -1) ∨ ∃ k, lineAt s = some k ∧ Lib.indexByte (s.take 512) 10 = (k : Int) ∧ k < s.length ∧ k < 512 := by
  unfold lineAt
  by_cases h : Lib.indexByte (s.take 512) 10 = -1
  · exact .inl ⟨by rw [if_pos h], h⟩
  · have h1 := Lib.indexByte_ge (s.take 512) 10
    obtain ⟨k, hk⟩ : ∃ k : Nat, Lib.indexByte (s.take 512) 10 = (k : Int) := ⟨(Lib.indexByte (s.take 512) 10).toNat, by omega⟩
    have h2 := (Lib.indexByte_some hk).1
    have h3 : k < (s.take 512).length := by
      rcases Nat.lt_or_ge k (s.take 512).length with h | h
      · exact h
      · rw [List.getElem?_eq_none h] at h2; cases h2
    simp at h3
    exact .inr ⟨k, by rw [if_neg h, hk]; rfl, hk, by omega, by omega⟩
set_option maxHeartbeats 1000000 in
set_option maxRecDepth 100000 in
/-- cutLine -/
theorem cutLine_any (p : Option Addr) (s : List UInt8) (cap : Nat) (w : World) (hA : At w p s) (h0 : p = none → cap = 0) (hc : s.length ≤ cap) :
    Calls Tryd.prog 15 #[.slice p s.length cap] w fun e w' => Hid (match lineAt s with
      | some k => ∃ q, e = .returned (.tuple #[.slice p (k + 1) (k + 1), .slice q (s.length - (k + 1)) (s.length - (k + 1)), .int .i64 0]) ∧ At w q (s.drop (k + 1))
      | none => e = .returned (.tuple #[.slice none 0 0, .slice p s.length cap, .int .i64 (if 512 ≤ s.length then 33 else -1)])) ∧ Hid (∃ n, w' = w.drewN n) := by
  have HIx : Hid (∀ W n, n = (s.take 512).length → At W p s → Calls Tryd.prog 23 #[.slice p n cap, .int .u8 10] W fun e w' => e = .returned (.int .i64 (Lib.indexByte (s.take 512) 10)) ∧ w' = W) := fun W n hn hA => by
    rw [hn]; exact index_any p (s.take 512) cap 10 W (hA.take 512) h0
  have HA := hid hA
  have HCt : Hid (∀ k, k + 1 ≤ s.length → Calls Tryd.prog 24 #[.slice p s.length cap, .int .i64 ((k : Int) + 1)] w fun e w' => (∃ q, e = .returned (.tuple #[.slice p (k + 1) (k + 1), .slice q (s.length - (k + 1)) (s.length - (k + 1))]) ∧ At w q (s.drop (k + 1))) ∧ w' = w.drew) := fun k hk => by
    have h := cut_any p s cap (k + 1) w hA hk hc
    have e : ((k + 1 : Nat) : Int) = (k : Int) + 1 := by omega
    rwa [e] at h
  have ht : (s.take 512).length = min 512 s.length := by simp
  clear hA
  rcases lineAt_cases s with ⟨h1, h2⟩ | ⟨k, h1, h2, h3, h4⟩
  · rw [h1]
    rw [h2] at HIx
    clear h1 h2
    by_cases h : 512 ≤ s.length
    · have hmin : min (s.length : Int) 512 = 512 := by omega
      rw [if_pos h]
      go_enter Tryd.func15, Tryd.ntmps15
      go_wp2_with fail
      refine (HIx.out _ 512 (by omega) HA.out).mono ?_; rintro e w' ⟨rfl, rfl⟩
      go_wp2
      go_ret3
      exact ⟨rfl, 0, rfl⟩
    · have hmin : min (s.length : Int) 512 = (s.length : Int) := by omega
      rw [if_neg h]
      go_enter Tryd.func15, Tryd.ntmps15
      go_wp2_with fail
      refine (HIx.out _ s.length (by omega) HA.out).mono ?_; rintro e w' ⟨rfl, rfl⟩
      go_wp2
      go_ret3
      exact ⟨rfl, 0, rfl⟩
  · rw [h1]
    rw [h2] at HIx
    clear h1 h2
    have HCk := hid (HCt.out k (by omega))
    by_cases h : 512 ≤ s.length
    · have hmin : min (s.length : Int) 512 = 512 := by omega
      go_enter Tryd.func15, Tryd.ntmps15
      go_wp2_with fail
      refine (HIx.out _ 512 (by omega) HA.out).mono ?_; rintro e w' ⟨rfl, rfl⟩
      go_wp2_with fail
      refine HCk.out.mono ?_; rintro e w' ⟨⟨q, rfl, hq⟩, rfl⟩
      have HQ := hid hq
      clear hq
      go_wp2
      go_ret3
      exact ⟨⟨q, rfl, HQ.out⟩, 1, rfl⟩
    · have hmin : min (s.length : Int) 512 = (s.length : Int) := by omega
      go_enter Tryd.func15, Tryd.ntmps15
      go_wp2_with fail
      refine (HIx.out _ s.length (by omega) HA.out).mono ?_; rintro e w' ⟨rfl, rfl⟩
      go_wp2_with fail
      refine HCk.out.mono ?_; rintro e w' ⟨⟨q, rfl, hq⟩, rfl⟩
      have HQ := hid hq
      clear hq
      go_wp2
      go_ret3
      exact ⟨⟨q, rfl, HQ.out⟩, 1, rfl⟩

end Go.Proofs.YtjcegiponjpjiabDoor
