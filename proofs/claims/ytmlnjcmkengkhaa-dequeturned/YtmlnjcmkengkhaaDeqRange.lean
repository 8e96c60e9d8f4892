/- The program's deque: Range, Clone. -/
import Derived.Test.YtmlnjcmkengkhaaDeqLay
import Derived.Laws.MakeOwn
namespace Go.Proofs.Ytmlnjcmkengkhaa
open Go.RowKit

theorem make_run (n : Nat) (k : Int) (hk : k = n) (hn : n ≤ 256) (u : World) : (Instr.makeSlice 26 (.int .i64 k) (.int .i64 k)).run Try.prog u =
    .ok (.slice (some ⟨u.heap.size, 0, none⟩) n n) (u.alloc (.cells (List.replicate n (txt [])).toArray 9)) := by
  subst hk
  obtain ⟨i0, hi, hz0, hz1, hz2⟩ := info_parts infoS
  have h := run_make (P := Try.prog) u 26 9 i0 (.string ⟨#[]⟩) Try.underlying26 hi hz0 .i64 .i64 (n : Int) (n : Int) (by omega) (Int.le_refl _) (by rw [hz2]; omega) (by omega)
  have e : madeCells (Value.string ⟨#[]⟩).cells n = (List.replicate n (txt [])).toArray := by
    apply Array.ext'
    rw [show (Value.string ⟨#[]⟩).cells = #[Value.string ⟨#[]⟩] from rfl, toList_madeCells_one]
  rw [hz1, Nat.mul_one, Int.toNat_natCast, e] at h
  exact h
theorem dq_turn {w w' : World} {b : Nat} {L : Row} (h : Dq w b L) (he : w'.heap[b]? = w.heap[b]?) : Dq w' b L := by
  obtain ⟨cs, f, hc, h⟩ := h
  exact ⟨cs, f, he.trans hc, h⟩
theorem dq_lt {w : World} {b : Nat} {L : Row} (h : Dq w b L) : b < w.heap.size := by
  obtain ⟨cs, f, hc, _⟩ := h
  exact (Array.getElem?_eq_some_iff.1 hc).1
set_option maxHeartbeats 2000000 in
set_option maxRecDepth 100000 in
/-- Range -/
theorem range_any (b : Nat) (L : Row) (f t : Int) (w : World) (h : Dq w b L) (f0 : -9223372036854775808 ≤ f) (f1 : f ≤ 9223372036854775807) (t0 : -9223372036854775808 ≤ t) (t1 : t ≤ 9223372036854775807) :
    Calls Try.prog 13 #[ptr b, .int .i64 f, .int .i64 t] w fun e w' => ∃ p c, e = .returned (.slice p (rangeL L f t).length c) ∧ Hid (Tl (New w) w' (.slice p (rangeL L f t).length c) (rangeL L f t) ∧ Dq w' b L ∧ Keep (But b) w w') := by
  have HD := hid h
  have hb := dq_lt h
  obtain ⟨cs, g, hc, hsz, h1, h2, hr⟩ := h
  have c2 : w.cell? ⟨b, 257, none⟩ = some (.int .i64 L.length) := by rw [dq_cells hc]; exact h2
  have hn := hr.len
  have HC := hid (clamp_any f t L.length w f0 f1 t0 t1 (by omega) (by omega))
  obtain ⟨r1, r2, r3, r4⟩ := range_bounds L f t
  obtain ⟨x, hx⟩ : ∃ x, x = (clA f t L.length).toNat := ⟨_, rfl⟩
  obtain ⟨y, hy⟩ : ∃ y, y = (clB f t L.length).toNat := ⟨_, rfl⟩
  rw [show rangeL L f t = (L.drop x).take (y - x) by unfold rangeL; rw [← hx, ← hy]]
  rw [← hx, ← hy] at r1
  rw [← hy] at r2
  rw [show clA f t L.length = (x : Int) by omega, show clB f t L.length = (y : Int) by omega] at HC
  clear hx hy r3 r4
  have hyz : (y : Int) ≤ 256 := by omega
  have hxz : (x : Int) ≤ 256 := by omega
  obtain ⟨m, hm⟩ : ∃ m, m = y - x := ⟨_, rfl⟩
  rw [← hm]
  have hM := make_run m ((y : Int) - x) (by omega) (by omega) w
  obtain ⟨w2, hw2⟩ : ∃ w2, w2 = w.alloc (.cells (List.replicate m (txt [])).toArray 9) := ⟨_, rfl⟩
  have HLay := hid (lay_any b g x m m w.heap.size cs L (List.replicate m (txt [])) 9 w2 (by rw [hw2, heap_alloc_old w _ hb]; exact hc) h1 hr (by omega) (by rw [hw2]; exact heap_alloc_new w _) hb (by simp) (Nat.le_refl _) (by omega))
  have HK : Hid (Below w.heap.size w w2) := by unfold Hid; rw [hw2]; exact below_alloc w _
  rw [← hw2] at hM
  have hlen : ((L.drop x).take m).length = m := by simp; omega
  clear hc hsz h1 h2 hr hm hw2
  obtain ⟨R, hR⟩ : ∃ R, R = (L.drop x).take m := ⟨_, rfl⟩
  rw [← hR] at HLay hlen
  rw [← hR]
  clear hR
  go_enter Try.func13, Try.ntmps13
  go_wp2_with fail
  refine HC.out.mono ?_; rintro e w1 ⟨rfl, rfl⟩
  go_wp2_with fail
  refine HLay.out.mono ?_; rintro e w3 ⟨rfl, hh⟩
  have H3 := hid hh.out
  clear hh
  go_wp2_with fail
  go_ret
  have hB := HK.out.trans H3.out.2
  refine ⟨some ⟨w1.heap.size, 0, none⟩, m, by rw [hlen]; rfl, .inr ⟨w1.heap.size, 0, m, rfl, by omega, Nat.le_refl _, (Array.getElem?_eq_some_iff.1 H3.out.1).1, fun i hi => ?_⟩, dq_turn HD.out (hB.block b hb), Keep.of_below hB⟩
  rw [cell_of_row _ _ _ _ _ _ H3.out.1, Nat.zero_add]
  simp [hi]
theorem ring_upto (b k : Nat) (h : k ≤ 256) (w : World) : (Instr.sliceAt 46 (.pointer (some ⟨b, 0, none⟩)) none (some (.int .i64 k)) none).run Try.prog w = .ok (.slice (some ⟨b, 0, none⟩) k 256) w := by
  have hkz : (k : Int) ≤ 256 := by omega
  go_simp
theorem zeros_texts : zeros.toList = List.replicate 256 (txt []) ++ [.int .i64 0, .int .i64 0] := by unfold zeros; rw [Array.toList_append, Array.toList_replicate]
theorem laid_ring (L : Row) (h : L.length ≤ 256) (cs : Array Value) (hcs : cs = (L.map txt ++ (zeros.setIfInBounds 257 (.int .i64 L.length)).toList.drop L.length).toArray) :
    cs.size = 258 ∧ cs[256]? = some (.int .i64 0) ∧ cs[257]? = some (.int .i64 L.length) ∧ Ring cs 0 L := by
  have hz : (zeros.setIfInBounds 257 (.int .i64 L.length)).toList = List.replicate 256 (txt []) ++ [.int .i64 0, .int .i64 L.length] := by
    rw [Array.toList_setIfInBounds, zeros_texts, List.set_append_right _ _ (by rw [List.length_replicate]; decide), List.length_replicate]
    rfl
  rw [hz, List.drop_append, List.drop_replicate, List.length_replicate, show L.length - 256 = 0 by omega, List.drop_zero] at hcs
  have hg : ∀ j, cs[j]? = (L.map txt ++ (List.replicate (256 - L.length) (txt []) ++ [.int .i64 0, .int .i64 L.length]))[j]? := fun j => by rw [hcs, List.getElem?_toArray]
  have hs : cs.size = 258 := by rw [hcs]; simp; omega
  refine ⟨hs, ?_, ?_, by decide, h, fun i hi => ?_, fun j hj => ?_⟩
  · rw [hg, List.getElem?_append_right (by simp; omega), List.getElem?_append_right (by simp)]
    simp only [List.length_map, List.length_replicate, show 256 - L.length - (256 - L.length) = 0 by omega]
    rfl
  · rw [hg, List.getElem?_append_right (by simp; omega), List.getElem?_append_right (by simp; omega)]
    simp only [List.length_map, List.length_replicate, show 257 - L.length - (256 - L.length) = 1 by omega]
    rfl
  · rw [show (0 + i) % 256 = i by omega, hg, List.getElem?_append_left (by simpa using hi)]
    simp [hi]
  · by_cases hl : j < L.length
    · exact ⟨L[j], by rw [hg, List.getElem?_append_left (by simpa using hl)]; simp [hl]⟩
    · refine ⟨[], ?_⟩
      rw [hg, List.getElem?_append_right (by simp; omega), List.getElem?_append_left (by simp; omega)]
      simp only [List.length_map]
      rw [List.getElem?_replicate, if_pos (by omega)]
set_option maxHeartbeats 2000000 in
set_option maxRecDepth 100000 in
/-- Clone -/
theorem clone_any (b : Nat) (L : Row) (w : World) (h : Dq w b L) : Calls Try.prog 14 #[ptr b] w fun e w' => ∃ c, e = .returned (ptr c) ∧ Hid (w.heap.size ≤ c ∧ Dq w' c L ∧ Below w.heap.size w w') := by
  have hb := dq_lt h
  have hbn : ¬ b = w.heap.size := by omega
  obtain ⟨cs, g, hc, hsz, h1, h2, hr⟩ := h
  have hn := hr.len
  have HN := hid (new_any w)
  obtain ⟨w1, hw1⟩ : ∃ w1, w1 = w.alloc (.cells zeros 48) := ⟨_, rfl⟩
  rw [← hw1] at HN
  have hc1 : w1.heap[b]? = some (.cells cs 48 (0, 0)) := by rw [hw1, heap_alloc_old w _ hb]; exact hc
  have hz1 : w1.heap[w.heap.size]? = some (.cells zeros 48 (0, 0)) := by rw [hw1]; exact heap_alloc_new w _
  have c2 : w1.cell? ⟨b, 257, none⟩ = some (.int .i64 L.length) := by rw [dq_cells hc1]; exact h2
  have c3 : w1.cell? ⟨w.heap.size, 257, none⟩ = some (.int .i64 0) := by rw [dq_cells hz1]; simp [zeros]
  have f3 := frozen_of_row w1 w.heap.size 257 _ _ hz1
  obtain ⟨w2, hw2⟩ : ∃ w2, w2 = w1.setCell ⟨w.heap.size, 257, none⟩ (.int .i64 L.length) := ⟨_, rfl⟩
  have hc2 : w2.heap[b]? = some (.cells cs 48 (0, 0)) := by rw [hw2, heap_setCell_other _ _ _ _ (by omega)]; exact hc1
  have hz2 : w2.heap[w.heap.size]? = some (.cells ((zeros.setIfInBounds 257 (.int .i64 L.length)).toList).toArray 48 (0, 0)) := by rw [hw2, heap_setCell_same _ w.heap.size 257 _ _ _ hz1]
  have c4 : w2.cell? ⟨w.heap.size, 257, none⟩ = some (.int .i64 L.length) := by rw [dq_cells hz2]; simp [zeros]
  have HLay := hid (fun (w3 : World) (e : w3.heap = w2.heap) => lay_any b g 0 L.length 256 w.heap.size cs L ((zeros.setIfInBounds 257 (.int .i64 L.length)).toList) 48 w3 (by rw [e]; exact hc2) h1 hr (by omega) (by rw [e]; exact hz2) hb (by simp [zeros]; omega) hn (Nat.le_refl _))
  have HK : Hid (Below w.heap.size w w2) := by unfold Hid; rw [hw2, hw1]; exact (below_alloc w _).setCell (by simp) _
  have S := ring_upto w.heap.size L.length hn
  have HFin := hid (laid_ring L hn _ rfl)
  have hT : (L.drop 0).take L.length = L := by simp
  rw [hT, show ((0 : Nat) : Int) = 0 from rfl] at HLay
  have hnz : (L.length : Int) ≤ 256 := by omega
  clear hT hw1 hc hsz h1 h2 hr hc1 hz1 hc2 hz2
  subst hw2
  go_enter Try.func14, Try.ntmps14
  go_wp2_with fail
  refine HN.out.mono ?_; rintro e w3 ⟨rfl, rfl⟩
  go_wp2_with fail
  go_region_law (go_simp; go_at_call 22; refine (HLay.out (World.drew _) rfl).mono ?_; rintro e w4 ⟨rfl, hh⟩; have H4 := hid hh.out; clear hh)
  all_goals go_wp2_with fail
  all_goals go_ret
  all_goals exact ⟨_, rfl, Nat.le_refl _, ⟨_, 0, H4.out.1, HFin.out⟩, HK.out.drew.trans H4.out.2⟩

end Go.Proofs.Ytmlnjcmkengkhaa
