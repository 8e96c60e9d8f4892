/- A row of texts that came in, opened. -/
import Derived.Test.YtngkbacnajgmcabDoorListP
import Derived.Test.YtngkbacnajgmcabDoorRows
import Derived.Deep.Strs
namespace Go.Proofs.YtngkbacnajgmcabDoor
open Go.RowKit

theorem bulk_texts {H : Type} : ∀ l : List (List UInt8), Rows.uptoBulkAll (l.map fun x => (.lit (.string x) : DataW H)) = (l.map (·.length + 1)).sum
  | [] => by rw [List.map_nil, List.map_nil]; unfold Rows.uptoBulkAll; rfl
  | x :: l => by
    rw [List.map_cons, List.map_cons, List.sum_cons, ← bulk_texts l]
    conv => lhs; unfold Rows.uptoBulkAll
    rw [Rows.uptoBulk]
theorem open_texts {H : Type} {enc : TypeId × Value → H} {W : World} {base : Nat} {sp : Nat → Bool} {held : Bool} {m : Nat} {a : Option Addr} {len cap : Nat} {d : DataW H} {p : List MemPlace} (hm : DataW.trod enc Tryd.prog W base sp held m 22 [.slice a len cap] = some (d, p)) :
    ∃ l : List (List UInt8), l.length = len ∧ Strs W a l ∧ (∀ x ∈ l, x.length ≤ maxLen) ∧ (l.map (·.length + 1)).sum ≤ Rows.uptoBulk d := by
  rcases Go.Deep.open_strs Tryd.underlying22 Tryd.underlying9 (by kernel_rfl) hm with ⟨e, _⟩ | ⟨a0, len0, cap0, M, Sx, e, _, hl, _, hM, hd, hc⟩
  · simp only [List.cons.injEq, Value.slice.injEq, and_true] at e
    obtain ⟨rfl, rfl, rfl⟩ := e
    exact ⟨[], rfl, fun h => absurd rfl h, (fun x h => by cases h), by simp⟩
  · simp only [List.cons.injEq, Value.slice.injEq, and_true] at e
    obtain ⟨rfl, rfl, rfl⟩ := e
    have hlM : len ≤ M := by rw [hM]; split <;> omega
    refine ⟨(List.range len).map fun i => (Sx i).data.toList, by simp, fun hne => ?_, fun x hx => ?_, ?_⟩
    · have hlen : 0 < len := by
        rcases Nat.eq_zero_or_pos len with h | h
        · subst h; exact absurd rfl hne
        · exact h
      obtain ⟨blk, off, spot⟩ := a0
      have h0 := (hc 0 (by omega)).1
      have hsp : spot = none := by
        cases spot with
        | none => rfl
        | some x =>
          unfold Addr.add at h0
          simp only [if_true] at h0
          unfold World.cell? at h0
          split at h0
          · simp at h0
          · cases h0
      subst hsp
      refine ⟨blk, off, rfl, fun i hi => ?_⟩
      simp only [List.length_map, List.length_range] at hi
      have := (hc i (by omega)).1
      rw [Go.WideShapes.add_plain] at this
      rw [this]
      simp
    · simp only [List.mem_map, List.mem_range] at hx
      obtain ⟨i, hi, rfl⟩ := hx
      have := (hc i (by omega)).2
      rw [Lib.size_eq] at this
      exact this
    · obtain ⟨rfl, _⟩ := Prod.mk.inj hd
      rw [Rows.uptoBulk, show ((List.range len).map fun i => (.lit (.string (Sx i).data.toList) : DataW H)) = ((List.range len).map fun i => (Sx i).data.toList).map fun x => (.lit (.string x) : DataW H) by rw [List.map_map]; rfl, bulk_texts]
      omega

end Go.Proofs.YtngkbacnajgmcabDoor
