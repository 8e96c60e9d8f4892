/- How a client is told: the program's Text. -/
import Derived.Test.YtpmpndfinghlkaaDoorRtText
namespace Go.Proofs.YtpmpndfinghlkaaDoor
open Go.RowKit

structure DecIn (d : DecV) : Prop where
  kind : In64 d.kind
  slot : In64 d.slot
  node : In64 d.node
  token : In64 d.token
theorem textV_2 (s n t : Int) : textV ⟨2, s, n, t⟩ = lineV wMoved [s, n] := by simp [textV, lineV]
theorem textV_3 (s n t : Int) : textV ⟨3, s, n, t⟩ = lineV wAsk [s, n, t] := by simp [textV, lineV]
theorem textV_o {k s n t : Int} (h2 : k ≠ 2) (h3 : k ≠ 3) (h4 : k ≠ 4) (h5 : k ≠ 5) (h6 : k ≠ 6) : textV ⟨k, s, n, t⟩ = [] := by simp [textV, h2, h3, h4, h5, h6]
set_option maxHeartbeats 2000000 in
set_option maxRecDepth 100000 in
theorem text_any (d : DecV) (w : World) (hE : Env w) (hd : DecIn d) : Calls Tryd.prog 12 #[.agg (decCells d)] w fun e w' => e = .returned (.string ⟨(textV d).toArray⟩) ∧ Below w.heap.size w w' := by
  obtain ⟨k, s, n, t⟩ := d
  obtain ⟨-, hs, hn, ht⟩ := hd
  replace hs : In64 s := hs
  replace hn : In64 n := hn
  replace ht : In64 t := ht
  show Calls Tryd.prog 12 #[.agg #[.int .i64 k, .int .i64 s, .int .i64 n, .int .i64 t]] w _
  have HB1 := hid (below_alloc w (.cells #[.int .i64 k, .int .i64 s, .int .i64 n, .int .i64 t] 28))
  by_cases h2 : k = 2
  · subst h2
    rw [textV_2]
    obtain ⟨w2, hw2⟩ : ∃ w2, (w.alloc (.cells #[.int .i64 2, .int .i64 s, .int .i64 n, .int .i64 t] 28)).alloc (.cells #[.int .i64 s, .int .i64 n] 3) = w2 := ⟨_, rfl⟩
    have hB2 : Below w.heap.size w w2 := by rw [← hw2]; exact HB1.out.alloc (by simp) _
    have hh : w2.heap[w.heap.size + 1]? = some (.cells #[.int .i64 s, .int .i64 n] 3 (0, 0)) := by rw [← hw2]; exact heap_alloc2_new w _ _
    have HB2 := hid hB2
    have HL := hid (line_any wMoved (w.heap.size + 1) 0 [s, n] 2 2 w2 (hE.below hB2 hE.room) rfl (Array.getElem?_eq_some_iff.1 hh).1 (fun j h => by
      rcases (show j = 0 ∨ j = 1 by simp at h; omega) with rfl | rfl
      · exact cell_of_row _ _ 0 _ _ _ hh
      · exact cell_of_row _ _ 1 _ _ _ hh) (by intro x hx; simp at hx; rcases hx with rfl | rfl <;> assumption) (by decide) (by decide))
    generalize lineV wMoved [s, n] = T at *
    clear hB2 hh hE hs hn ht HB1
    go_enter Tryd.func12, Tryd.ntmps12
    go_wp2_with fail
    refine HL.out.mono ?_; rintro e w3 ⟨rfl, hb⟩
    have HB3 := hid (HB2.out.trans (hb.mono HB2.out.size))
    clear hb
    go_wp2
    go_ret
    exact ⟨rfl, HB3.out⟩
  have h2z : (k == 2) = false := beq_eq_false_iff_ne.2 h2
  by_cases h3 : k = 3
  · subst h3
    rw [textV_3]
    obtain ⟨w2, hw2⟩ : ∃ w2, (w.alloc (.cells #[.int .i64 3, .int .i64 s, .int .i64 n, .int .i64 t] 28)).alloc (.cells #[.int .i64 s, .int .i64 n, .int .i64 t] 3) = w2 := ⟨_, rfl⟩
    have hB2 : Below w.heap.size w w2 := by rw [← hw2]; exact HB1.out.alloc (by simp) _
    have hh : w2.heap[w.heap.size + 1]? = some (.cells #[.int .i64 s, .int .i64 n, .int .i64 t] 3 (0, 0)) := by rw [← hw2]; exact heap_alloc2_new w _ _
    have HB2 := hid hB2
    have HL := hid (line_any wAsk (w.heap.size + 1) 0 [s, n, t] 3 3 w2 (hE.below hB2 hE.room) rfl (Array.getElem?_eq_some_iff.1 hh).1 (fun j h => by
      rcases (show j = 0 ∨ j = 1 ∨ j = 2 by simp at h; omega) with rfl | rfl | rfl
      · exact cell_of_row _ _ 0 _ _ _ hh
      · exact cell_of_row _ _ 1 _ _ _ hh
      · exact cell_of_row _ _ 2 _ _ _ hh) (by intro x hx; simp at hx; rcases hx with rfl | rfl | rfl <;> assumption) (by decide) (by decide))
    generalize lineV wAsk [s, n, t] = T at *
    clear hB2 hh hE hs hn ht HB1 h2 h2z
    go_enter Tryd.func12, Tryd.ntmps12
    go_wp2_with fail
    refine HL.out.mono ?_; rintro e w3 ⟨rfl, hb⟩
    have HB3 := hid (HB2.out.trans (hb.mono HB2.out.size))
    clear hb
    go_wp2
    go_ret
    exact ⟨rfl, HB3.out⟩
  have h3z : (k == 3) = false := beq_eq_false_iff_ne.2 h3
  clear hs hn ht hE
  by_cases h4 : k = 4
  · subst h4
    clear h2 h2z h3 h3z
    go_enter Tryd.func12, Tryd.ntmps12
    go_wp2
    go_ret
    exact ⟨rfl, HB1.out⟩
  have h4z : (k == 4) = false := beq_eq_false_iff_ne.2 h4
  by_cases h5 : k = 5
  · subst h5
    clear h2 h2z h3 h3z h4 h4z
    go_enter Tryd.func12, Tryd.ntmps12
    go_wp2
    go_ret
    exact ⟨rfl, HB1.out⟩
  have h5z : (k == 5) = false := beq_eq_false_iff_ne.2 h5
  by_cases h6 : k = 6
  · subst h6
    clear h2 h2z h3 h3z h4 h4z h5 h5z
    go_enter Tryd.func12, Tryd.ntmps12
    go_wp2
    go_ret
    exact ⟨rfl, HB1.out⟩
  have h6z : (k == 6) = false := beq_eq_false_iff_ne.2 h6
  rw [textV_o h2 h3 h4 h5 h6]
  clear h2 h3 h4 h5 h6
  go_enter Tryd.func12, Tryd.ntmps12
  go_wp2
  go_ret
  exact ⟨rfl, HB1.out⟩

end Go.Proofs.YtpmpndfinghlkaaDoor
