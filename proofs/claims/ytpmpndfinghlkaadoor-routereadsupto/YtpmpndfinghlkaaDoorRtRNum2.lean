/- The numbers behind a word, at any text: ref17's numbers. -/
import Derived.Test.YtpmpndfinghlkaaDoorRtRNum
namespace Go.Proofs.YtpmpndfinghlkaaDoor
open Go.RowKit

set_option maxHeartbeats 2000000 in
set_option maxRecDepth 100000 in
theorem numbers_any (l W : List UInt8) (n : Nat) (w : World) (hn : W.length = n) (hn10 : n ≤ 10) (hl : l.length ≤ 10000000) :
    Calls Tryd.prog 22 #[.string ⟨l.toArray⟩, .string ⟨W.toArray⟩] w (NumP l W w) := by
  have hwl : (W.length : Int) = (n : Int) := by omega
  have hn10z : (n : Int) ≤ 10 := by omega
  have hlz : (l.length : Int) ≤ 10000000 := by omega
  by_cases hW : n < l.length
  · have hnz : (n : Int) < (l.length : Int) := by omega
    have hnle : ¬ l.length ≤ n := by omega
    have t0 := fun V => str_to l n V (by omega)
    by_cases h1 : l.take n = W
    · by_cases h2 : l[n] = 32
      · exact numbers_loop l W n w hn hn10 hl hW h1 h2
      · have HN : Hid (∀ r, l = W ++ 32 :: r → numsV (pcs r) = none) := fun r h => by
          refine absurd ?_ h2
          have e : l[n]? = some 32 := by rw [h, List.getElem?_append_right (by omega), hn]; simp
          rw [List.getElem?_eq_getElem hW] at e
          exact Option.some.inj e
        rw [h1] at t0
        have bk := byte_is hW 32 32 rfl
        rw [decide_eq_false h2] at bk
        have hWe : (W == W) = true := by simp
        clear h1 h2
        go_enter Tryd.func22, Tryd.ntmps22
        go_wp2
        go_ret2
        exact ⟨.inr ⟨rfl, HN.out⟩, Below.refl _ _⟩
    · have HN : Hid (∀ r, l = W ++ 32 :: r → numsV (pcs r) = none) := fun r h => by
        refine absurd ?_ h1
        rw [h, ← hn, List.take_left]
      obtain ⟨T, hT⟩ : ∃ T, l.take n = T := ⟨_, rfl⟩
      rw [hT] at t0 h1
      have hWe : (T == W) = false := beq_eq_false_iff_ne.2 h1
      clear h1 hT
      go_enter Tryd.func22, Tryd.ntmps22
      go_wp2
      go_ret2
      exact ⟨.inr ⟨rfl, HN.out⟩, Below.refl _ _⟩
  · have HN : Hid (∀ r, l = W ++ 32 :: r → numsV (pcs r) = none) := fun r h => by
      rw [h] at hW
      simp at hW
      omega
    have hle : l.length ≤ n := by omega
    clear hW
    go_enter Tryd.func22, Tryd.ntmps22
    go_wp2
    go_ret2
    exact ⟨.inr ⟨rfl, HN.out⟩, Below.refl _ _⟩

end Go.Proofs.YtpmpndfinghlkaaDoor
