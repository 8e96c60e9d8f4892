/- What bytes.TrimSuffix and bytes.CutSuffix tell. -/
import Derived.Test.YtjcegiponjpjiabDoorLine
namespace Go.Proofs.YtjcegiponjpjiabDoor
open Go.RowKit

theorem At.bytesIn {w : World} {p : Option Addr} {s : List UInt8} (h : At w p s) : Lib.BytesIn w p s.length (nums s) := fun hn => by
  obtain ⟨b, o, e, hc, _⟩ := h (fun e => by rw [e] at hn; simp at hn)
  refine ⟨b, o, e, fun i hi => ?_⟩
  rw [hc i hi]
  simp [nums, List.getD, hi]
theorem trim_val {w : World} {p : Option Addr} {s t : List UInt8} (c : Nat) (h : At w p s) (ht : t ≠ []) :
    Lib.trimSuffixV p s.length c (nums s) (nums t) = .slice p (if Lib.hasSuffix s t then s.length - t.length else s.length) c := by
  obtain ⟨x, t', rfl⟩ : ∃ x t', t = x :: t' := by cases t with | nil => exact absurd rfl ht | cons x t' => exact ⟨x, t', rfl⟩
  by_cases hs : s = []
  · subst hs
    have hn : Lib.hasSuffix [] (x :: t') = false := by
      simp [Lib.hasSuffix]
    rw [hn]
    cases p with
    | none => rfl
    | some a =>
      obtain ⟨b, o, sp⟩ := a
      cases sp with
      | none =>
        show Lib.bytesTrimSuffix b o 0 c (nums []) (nums (x :: t')) = _
        unfold Lib.bytesTrimSuffix
        rw [bytesOf_nums, bytesOf_nums, hn]
        rfl
      | some sp => rfl
  · obtain ⟨b, o, rfl⟩ := h.plain hs
    have e := bytesOf_nums s
    have e2 := bytesOf_nums (x :: t')
    show Lib.bytesTrimSuffix b o s.length c (nums s) (nums (x :: t')) = _
    unfold Lib.bytesTrimSuffix
    rw [e, e2]
    cases Lib.hasSuffix s (x :: t') <;> simp [nums, Lib.sliceTo]
/-- bytes.CutSuffix -/
theorem cutSuffix_any {w : World} {p q : Option Addr} {s t : List UInt8} (c d : Nat) (h : At w p s) (ht : At w q t) (hne : t ≠ []) (hc : s.length ≤ c) (hm : s.length ≤ 9223372036854775807) :
    Calls Tryd.prog 28 #[.slice p s.length c, .slice q t.length d] w fun e w' => e = .returned (.tuple #[.slice p (if Lib.hasSuffix s t then s.length - t.length else s.length) c, .bool (Lib.hasSuffix s t)]) ∧ w' = w := by
  have := Tryd.bytes_CutSuffix_all p q s.length c t.length d (nums s) (nums t) w (by simp [nums]) (by simp [nums]) hc hm h.bytesIn ht.bytesIn
  rwa [trim_val c h hne, bytesOf_nums, bytesOf_nums] at this
/-- bytes.TrimSuffix -/
theorem trimSuffix_any {w : World} {p q : Option Addr} {s t : List UInt8} (c d : Nat) (h : At w p s) (ht : At w q t) (hne : t ≠ []) (hc : s.length ≤ c) (hm : s.length ≤ 9223372036854775807) :
    Calls Tryd.prog 25 #[.slice p s.length c, .slice q t.length d] w fun e w' => e = .returned (.slice p (if Lib.hasSuffix s t then s.length - t.length else s.length) c) ∧ w' = w := by
  have := Tryd.bytes_TrimSuffix_all p q s.length c t.length d (nums s) (nums t) w (by simp [nums]) (by simp [nums]) hc hm h.bytesIn ht.bytesIn
  rwa [trim_val c h hne] at this

end Go.Proofs.YtjcegiponjpjiabDoor
