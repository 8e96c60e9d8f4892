/- How long a slice can be whose reading is of a bounded bulk. -/
import Derived.Test.YtmokokkdllmdoaaDoorRows
namespace Go.Proofs.YtmokokkdllmdoaaDoor.bulks

theorem one_le {H : Type} (d : DataW H) : 1 ≤ Rows.uptoBulk d := by
  cases d with
  | lit l => cases l <;> simp [Rows.uptoBulk]
  | _ => simp [Rows.uptoBulk]
theorem length_le {H : Type} : ∀ l : List (DataW H), l.length ≤ Rows.uptoBulkAll l
  | [] => by simp [Rows.uptoBulkAll]
  | x :: r => by have := one_le x; have := length_le r; simp only [Rows.uptoBulkAll, List.length_cons]; omega
theorem part_le {H : Type} {d : DataW H} : ∀ {l : List (DataW H)}, d ∈ l → Rows.uptoBulk d ≤ Rows.uptoBulkAll l
  | x :: r, h => by
    simp only [Rows.uptoBulkAll]
    cases List.mem_cons.1 h with
    | inl e => subst e; omega
    | inr e => have := part_le e; omega
theorem slice_short {H : Type} {elems spare : List (DataW H)} {l : List (DataW H)} (h : Rows.uptoSmall H l = true) (hm : DataW.slice elems spare ∈ l) : elems.length + spare.length ≤ 1048576 := by
  have hb : Rows.uptoBulkAll l ≤ 1048576 := of_decide_eq_true h
  have h1 := part_le hm
  have h2 := length_le elems
  have h3 := length_le spare
  simp only [Rows.uptoBulk] at h1
  omega

end Go.Proofs.YtmokokkdllmdoaaDoor.bulks
