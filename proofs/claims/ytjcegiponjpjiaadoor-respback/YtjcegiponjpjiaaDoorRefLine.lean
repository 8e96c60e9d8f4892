/- Where a line ends, by the document: ref line. -/
import Derived.Test.YtjcegiponjpjiaaDoorDigits
namespace Go.Proofs.YtjcegiponjpjiaaDoor
open Go.RowKit

theorem take_at {r : List UInt8} {k : Nat} (h : k < 512) : (r.take 512)[k]? = r[k]? := by
  rw [List.getElem?_take, if_pos h]
theorem lineAt_some {r : List UInt8} {k : Nat} (h1 : r[k]? = some 10) (h2 : k < 512) (h3 : ∀ j, j < k → r[j]? ≠ some 10) : lineAt r = some k := by
  rcases lineAt_cases r with ⟨_, b⟩ | ⟨m, a, b, _, d⟩
  · exact absurd ((take_at h2).trans h1) (Lib.indexByte_none b k)
  · obtain ⟨e1, e2⟩ := Lib.indexByte_some b
    rcases Nat.lt_trichotomy k m with h | h | h
    · exact absurd ((take_at h2).trans h1) (e2 k h)
    · rw [a, h]
    · rw [take_at d] at e1
      exact absurd e1 (h3 m h)
theorem lineAt_none {r : List UInt8} (h : ∀ j, j < 512 → r[j]? ≠ some 10) : lineAt r = none := by
  rcases lineAt_cases r with ⟨a, _⟩ | ⟨m, _, b, _, d⟩
  · exact a
  · have := (Lib.indexByte_some b).1
    rw [take_at d] at this
    exact absurd this (h m d)
/-- what line tells -/
def lineVal (s : List UInt8) (at_ : Nat) : Value := match lineAt (s.drop at_) with
  | some k => .tuple #[.int .i64 ((at_ + k + 1 : Nat) : Int), .int .i64 0]
  | none => .tuple #[.int .i64 0, .int .i64 (if 512 ≤ s.length - at_ then 33 else 0)]
theorem lineVal_some {s : List UInt8} {a k : Nat} (h : lineAt (s.drop a) = some k) : lineVal s a = .tuple #[.int .i64 ((a + k + 1 : Nat) : Int), .int .i64 0] := by unfold lineVal; rw [h]
theorem lineVal_none {s : List UInt8} {a : Nat} (h : lineAt (s.drop a) = none) : lineVal s a = .tuple #[.int .i64 0, .int .i64 (if 512 ≤ s.length - a then 33 else 0)] := by unfold lineVal; rw [h]
theorem byte_is {l : List UInt8} {n : Nat} (h : n < l.length) (c : UInt8) (z : Int) (hz : (c.toNat : Int) = z) : ((((⟨l.toArray⟩ : ByteArray)[n]'(by simpa [ByteArray.size] using h)).toNat : Int) == z) = decide (l[n] = c) := by
  subst hz
  have e : ((⟨l.toArray⟩ : ByteArray)[n]'(by simpa [ByteArray.size] using h)) = l[n] := rfl
  rw [e]
  by_cases hc : l[n] = c
  · simp [hc]
  · rw [decide_eq_false hc, beq_eq_false_iff_ne]
    intro h2
    exact hc (UInt8.toNat_inj.1 (by omega))
set_option maxHeartbeats 1000000 in
set_option maxRecDepth 100000 in
theorem rline_any (s : List UInt8) (a : Nat) (w : World) (ha : a ≤ s.length) (hl : s.length ≤ 140737488351232) :
    Calls Tryd.prog 30 #[.string ⟨s.toArray⟩, .int .i64 a] w fun e w' => e = .returned (lineVal s a) ∧ w' = w := by
  have HS := hid fun k => lineVal_some (s := s) (a := a) (k := k)
  have HN := hid (lineVal_none (s := s) (a := a))
  generalize lineVal s a = V at HS HN ⊢
  go_enter Tryd.func30, Tryd.ntmps30
  go_wp2
  go_loop [6] (fun v6 => ∃ k : Nat, a + k ≤ s.length ∧ k ≤ 512 ∧ v6 = .int .i64 ((a + k : Nat) : Int) ∧ Hid (∀ j, j < k → (s.drop a)[j]? ≠ some 10)) (fun v6 => s.length + 1 - (intOf v6).toNat)
  case atStart => exact ⟨0, by omega, by omega, rfl, fun j h => absurd h (Nat.not_lt_zero _)⟩
  case round =>
    obtain ⟨k, hk1, hk2, rfl, HK⟩ := hrel
    by_cases hlt : a + k < s.length
    · by_cases h5 : k < 512
      · have hby := byte_is hlt 10 10 (by decide)
        have hget : (s.drop a)[k]? = some s[a + k] := by rw [List.getElem?_drop, List.getElem?_eq_getElem hlt]
        by_cases hc : s[a + k] = 10
        · rw [decide_eq_true hc] at hby
          have HV := hid (HS.out k (lineAt_some (by rw [hget, hc]) h5 HK.out))
          clear hc hget
          go_wp2
          go_ret2
          exact ⟨by rw [HV.out]; rfl, rfl⟩
        · rw [decide_eq_false hc] at hby
          have HK1 : Hid (∀ j, j < k + 1 → (s.drop a)[j]? ≠ some 10) := fun j hj => by
            rcases Nat.lt_or_ge j k with h | h
            · exact HK.out j h
            · obtain rfl : j = k := by omega
              rw [hget]
              intro e
              exact hc (by injection e)
          clear hc hget
          go_wp2
          go_round
          case rel => exact ⟨k + 1, by omega, by omega, by go_num, HK1.out⟩
          case measure => simp [intOf]; omega
      · have HV := hid (HN.out (lineAt_none fun j hj => HK.out j (by omega)))
        have h6 : 512 ≤ s.length - a := by omega
        rw [if_pos h6] at HV
        go_wp2
        go_ret2
        exact ⟨by rw [HV.out]; rfl, rfl⟩
    · have HV := hid (HN.out (lineAt_none fun j hj => by
        rcases Nat.lt_or_ge j k with h | h
        · exact HK.out j h
        · rw [List.getElem?_eq_none (by simp; omega)]; simp))
      by_cases h6 : 512 ≤ s.length - a
      · rw [if_pos h6] at HV
        go_wp2
        go_ret2
        exact ⟨by rw [HV.out]; rfl, rfl⟩
      · rw [if_neg h6] at HV
        go_wp2
        go_ret2
        exact ⟨by rw [HV.out]; rfl, rfl⟩

end Go.Proofs.YtjcegiponjpjiaaDoor
