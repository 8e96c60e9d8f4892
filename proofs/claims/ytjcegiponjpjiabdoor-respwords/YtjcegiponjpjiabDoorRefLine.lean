/- Where a line ends: plain mathematics (the part of RefLine that needs no function of the document's package). -/
import Derived.Test.YtjcegiponjpjiabDoorCutBytes
import Derived.Test.YtjcegiponjpjiabDoorCommand
namespace Go.Proofs.YtjcegiponjpjiabDoor
open Go.RowKit

theorem take_at {r : List UInt8} {k : Nat} (h : k < 512) : (r.take 512)[k]? = r[k]? := by
  rw [List.getElem?_take, if_pos h]
theorem lineAt_some {r : List UInt8} {k : Nat} (h1 : r[k]? = some 10) (h2 : k < 512) (h3 : ∀ j, j < k → r[j]? ≠ some 10) : lineAt r = some k := by
  rcases lineAt_cases r with ⟨_, b⟩ | ⟨m, a, b, _, d⟩
  · exact absurd ((take_at h2).trans h1) (Lib.indexByte_none b k)
  · obtain ⟨e1, e2⟩ := Lib.indexByte_some b
    rcases Nat.lt_trichotomy k m with h | h | h
    · exact absurd ((take_at h2).trans h1) (e2 k h)
    · rw [a, h]
    · rw [take_at d] at e1
      exact absurd e1 (h3 m h)
theorem lineAt_none {r : List UInt8} (h : ∀ j, j < 512 → r[j]? ≠ some 10) : lineAt r = none := by
  rcases lineAt_cases r with ⟨a, _⟩ | ⟨m, _, b, _, d⟩
  · exact a
  · have := (Lib.indexByte_some b).1
    rw [take_at d] at this
    exact absurd this (h m d)
theorem byte_is {l : List UInt8} {n : Nat} (h : n < l.length) (c : UInt8) (z : Int) (hz : (c.toNat : Int) = z) : ((((⟨l.toArray⟩ : ByteArray)[n]'(by simpa [ByteArray.size] using h)).toNat : Int) == z) = decide (l[n] = c) := by
  subst hz
  have e : ((⟨l.toArray⟩ : ByteArray)[n]'(by simpa [ByteArray.size] using h)) = l[n] := rfl
  rw [e]
  by_cases hc : l[n] = c
  · simp [hc]
  · rw [decide_eq_false hc, beq_eq_false_iff_ne]
    intro h2
    exact hc (UInt8.toNat_inj.1 (by omega))

end Go.Proofs.YtjcegiponjpjiabDoor
