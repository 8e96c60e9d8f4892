/- A row of texts that came in, opened. -/
import Derived.Test.YtmlnjcmkengkhaaLawTurned
import Derived.Deep.Strs
namespace Go.Proofs.Ytmlnjcmkengkhaa
open Go.RowKit

theorem open_texts {H : Type} {enc : TypeId × Value → H} {W : World} {base : Nat} {sp : Nat → Bool} {held : Bool} {m : Nat} {a : Option Addr} {len cap : Nat} {x : DataW H × List MemPlace} (hm : DataW.trod enc Try.prog W base sp held m 26 [.slice a len cap] = some x) :
    ∃ l : Row, l.length = len ∧ Strs W a l ∧ len ≤ 9223372036854775807 := by
  rcases Go.Deep.open_strs Try.underlying26 Try.underlying9 (by kernel_rfl) hm with ⟨e, _⟩ | ⟨a0, len0, cap0, M, Sx, e, _, hl, hcm, hM, hd, hc⟩
  · simp only [List.cons.injEq, Value.slice.injEq, and_true] at e
    obtain ⟨rfl, rfl, rfl⟩ := e
    exact ⟨[], rfl, fun h => absurd rfl h, by decide⟩
  · simp only [List.cons.injEq, Value.slice.injEq, and_true] at e
    obtain ⟨rfl, rfl, rfl⟩ := e
    have hlM : len ≤ M := by rw [hM]; split <;> omega
    refine ⟨(List.range len).map fun i => (Sx i).data.toList, by simp, fun hne => ?_, Nat.le_trans hl hcm⟩
    have hlen : 0 < len := by
      rcases Nat.eq_zero_or_pos len with h | h
      · subst h; exact absurd rfl hne
      · exact h
    obtain ⟨blk, off, spot⟩ := a0
    have h0 := (hc 0 (by omega)).1
    have hsp : spot = none := by
      cases spot with
      | none => rfl
      | some x =>
        unfold Addr.add at h0
        simp only [if_true] at h0
        unfold World.cell? at h0
        split at h0
        · simp at h0
        · cases h0
    subst hsp
    refine ⟨blk, off, rfl, fun i hi => ?_⟩
    simp only [List.length_map, List.length_range] at hi
    have := (hc i (by omega)).1
    rw [Go.WideShapes.add_plain] at this
    rw [this]
    simp

end Go.Proofs.Ytmlnjcmkengkhaa
