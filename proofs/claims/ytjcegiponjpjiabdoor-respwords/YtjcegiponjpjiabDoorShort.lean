/- A command that was read has at most 32 arguments: plain mathematics. (LawReads bears the same: import one of the two.) -/
import Derived.Test.YtjcegiponjpjiabDoorNext2
namespace Go.Proofs.YtjcegiponjpjiabDoor

theorem one_len {s r : List UInt8} {l : List (List UInt8)} (h : one s = .got l r) : l.length ≤ 32 := by
  unfold one at h
  split at h
  · cases h
  · split at h
    · split at h
      · cases h
      · rename_i n hn
        have h1 := (bulks_rest _ h).2
        have h2 := num_le hn
        simp at h1
        omega
    · split at h
      · cases h
      · rename_i h32
        injection h with h _
        subst h
        omega
theorem Runs.short {s s' : List UInt8} {c : List (List (List UInt8))} {e : Int} (h : Runs s c s' e) : ∀ x ∈ c, x.length ≤ 100000000 := by
  induction h with
  | more h => intro x hx; cases hx
  | bad h he => intro x hx; cases hx
  | skip h _ ih => exact ih
  | some h _ _ ih =>
    intro x hx
    rcases List.mem_cons.1 hx with rfl | hx
    · have := one_len h; omega
    · exact ih x hx

end Go.Proofs.YtjcegiponjpjiabDoor
