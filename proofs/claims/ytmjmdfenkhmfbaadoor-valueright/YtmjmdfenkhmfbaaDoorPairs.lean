/- Rows of pairs of the call's own. -/
import Derived.Test.YtmjmdfenkhmfbaaDoorRead5
namespace Go.Proofs.YtmjmdfenkhmfbaaDoor
open Go.RowKit

theorem unflat_len : ∀ l : List Nm, (unflat l).length = l.length / 2
  | [] => rfl
  | [_] => by simp [unflat]
  | _ :: _ :: l => by
    show (unflat l).length + 1 = _
    rw [unflat_len l]
    simp only [List.length_cons]
    omega
theorem unflat_at : ∀ (l : List Nm) (i : Nat) (h : 2 * i + 1 < l.length), (unflat l)[i]? = some (l[2 * i], l[2 * i + 1])
  | a :: b :: l, 0, _ => rfl
  | a :: b :: l, i + 1, h => by
    have := unflat_at l i (by simp only [List.length_cons] at h; omega)
    show ((a, b) :: unflat l)[i + 1]? = _
    rw [List.getElem?_cons_succ, this]
    simp only [show 2 * (i + 1) = 2 * i + 1 + 1 by omega, List.getElem_cons_succ]
  | [_], i, h => by simp at h
  | [], i, h => by simp at h
theorem unflat_take {l : List Nm} {i : Nat} (h : 2 * i + 1 < l.length) : (unflat l).take (i + 1) = (unflat l).take i ++ [(l[2 * i], l[2 * i + 1])] := by
  rw [List.take_add_one, unflat_at l i h]
  rfl

end Go.Proofs.YtmjmdfenkhmfbaaDoor
