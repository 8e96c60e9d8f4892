/- BlDo0, BlDo1, BlDo2, BlDo3, BlDo4, BlDo5, BlDo9, BlDo. -/
import Derived.Test.YtbfllifgmlkndaaGreatDoorM45
namespace Go.Proofs.YtbfllifgmlkndaaGreatDoor
open Go.RowKit
open Slot

theorem tellO_len (v : Vw) (k t : Int) : (tellO v k t).length ≤ 1 := by
  unfold tellO
  split <;> simp [outs]
theorem Ty.setRow {w : World} {F : Nat → Prop} (h : Ty w F) {x : Nat} (hx : ¬ F x) (C : Array Value) : Ty (w.setRow x C) F := fun k hk => by
  obtain ⟨C', t, fr, e1, e2⟩ := h k hk
  exact ⟨C', t, fr, (setRow_other w x k C (fun e => hx (e ▸ hk))).trans e1, e2⟩
theorem Ty.not {w : World} {F : Nat → Prop} (h : Ty w F) {x : Nat} {C : Array Value} {t : TypeId} {fr : Nat × Nat} (hx : w.heap[x]? = some (.cells C t fr)) (h1 : t ≠ 77) (h2 : t ≠ 109) (h3 : t ≠ 69) : ¬ F x := fun c => by
  obtain ⟨C', t', fr', e, hty⟩ := h x c
  rw [hx] at e
  injection e with e
  injection e with _ e _
  rcases hty with rfl | rfl | rfl
  · exact h1 e
  · exact h2 e
  · exact h3 e
end Go.Proofs.YtbfllifgmlkndaaGreatDoor
