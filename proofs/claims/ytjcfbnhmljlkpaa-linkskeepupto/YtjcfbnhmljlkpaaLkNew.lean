/- New, Waiting. -/
import Derived.Test.YtjcfbnhmljlkpaaLkStep
namespace Go.Proofs.Ytjcfbnhmljlkpaa
open Go.RowKit Go.Maps

set_option maxHeartbeats 4000000 in
set_option maxRecDepth 100000 in
theorem knew_any (w : World) : Calls Try.prog 8 #[] w fun e w' => ∃ b F R, e = .returned (ptr b) ∧ Hid (LB w' b F R [] ∧ (∀ k, F k ∨ R k → w.heap.size ≤ k) ∧ Below w.heap.size w w') := by
  have hmm := @run_makeMap Try.prog
  go_enter Try.func8, Try.ntmps8
  go_wp2_with fail
  go_ret
  have h1 := below_alloc w (.map #[] 0)
  have h2 := below_alloc (w.alloc (.map #[] 0)) (.cells #[.map (some w.heap.size)] 53)
  have hm := World.ownsMap_made w Try.prog 41 Rv
  have e1 : (w.alloc (.map #[] 0)).heap.size = w.heap.size + 1 := World.size_alloc _ _
  have hb := heap_alloc_new (w.alloc (.map #[] 0)) (.cells #[.map (some w.heap.size)] 53)
  rw [e1] at hb
  refine ⟨w.heap.size + 1, fun k => k = w.heap.size ∨ k = w.heap.size + 1, fun _ => False, rfl, ⟨w.heap.size, .map [], fun _ _ => [], ?_⟩, fun k hk => ?_, h1.trans (h2.mono (by omega))⟩
  · refine ⟨hb, ?_, .inr rfl, .inl rfl, fun _ _ => trivial, fun _ _ => rfl, fun _ _ _ => rfl, fun _ _ _ => rfl, fun _ _ h => absurd rfl h, ?_, fun _ _ p hp => (by cases hp), fun _ _ p hp => (by cases hp), fun k hk => ?_, fun k hk => hk.elim⟩
    · exact hm.alloc _
    · intro f t g u i j p q hp _ _
      simp at hp
    · rw [World.size_alloc, e1]
      rcases hk with (rfl | rfl) | hk
      · omega
      · omega
      · exact hk.elim
  · rcases hk with (rfl | rfl) | hk
    · exact Nat.le_refl _
    · omega
    · exact hk.elim
theorem fld_many (a l : Option Addr) (n : Int) (w : World) : (Instr.field 63 (.agg #[.pointer a, .pointer l, .int .i64 n]) 2).run Try.prog w = .ok (.int .i64 n) w := by kernel_rfl
set_option maxHeartbeats 4000000 in
set_option maxRecDepth 100000 in
theorem kwaiting_any {w : World} {b : Nat} {F R : Nat → Prop} {ws : List Wy} (h : LB w b F R ws) (f t : Int) (hi : IE f t) :
    Calls Try.prog 18 #[ptr b, .int .i64 f, .int .i64 t] w fun e w' => e = .returned (.int .i64 ((onV ws f t).length : Int)) ∧ Hid (Below w.heap.size w w') := by
  obtain ⟨m, D, pl, hs⟩ := h
  have hrun := hs.om.look hi (hs.val f t hi)
  unfold rowOf at hrun
  rw [hs.qlen] at hrun
  have c0 : w.cell? ⟨b, 0, none⟩ = some (.map (some m)) := cell_of_row w b 0 _ _ _ hs.blk
  obtain ⟨N, hN⟩ : ∃ N, (onV ws f t).length = N := ⟨_, rfl⟩
  rw [hN] at hrun ⊢
  have hfl := fld_many
  clear hs hN hi
  go_enter Try.func18, Try.ntmps18
  go_wp2_with fail
  go_ret
  exact ⟨rfl, Below.refl _ _⟩

end Go.Proofs.Ytjcfbnhmljlkpaa
