/- The program's deque: Push. -/
import Derived.Test.YtmlnjcmkengkhaaDeqBase
import Derived.Deep.RegionLaw
namespace Go.Proofs.Ytmlnjcmkengkhaa
open Go.RowKit

set_option maxHeartbeats 2000000 in
set_option maxRecDepth 100000 in
/-- a push ahead of the first -/
theorem push_front (b : Nat) (L : Row) (s : List UInt8) (w : World) (h : Dq w b L) (hful : L.length < 256) : Calls Try.prog 15 #[ptr b, .bool true, txt s] w fun e w' => e = .returned (.bool true) ∧ Hid (Dq w' b (s :: L) ∧ Keep (But b) w w') := by
  obtain ⟨cs, f, hc, hsz, h1, h2, hr⟩ := h
  have c1 : w.cell? ⟨b, 256, none⟩ = some (.int .i64 f) := by rw [dq_cells hc]; exact h1
  have c2 : w.cell? ⟨b, 257, none⟩ = some (.int .i64 L.length) := by rw [dq_cells hc]; exact h2
  have hz : ¬ (L.length : Int) = 256 := by omega
  have hz2 : (L.length : Int) < 256 := by omega
  have f1 := frozen_of_row w b 256 _ _ hc
  have f2 := frozen_of_row w b 257 _ _ hc
  have hf := hr.beg
  obtain ⟨k, hk⟩ : ∃ k, k = (f + 255) % 256 := ⟨_, rfl⟩
  have HA := hid (where_any b f k (-1) w c1 hf (by decide) (by decide) (by omega) (by omega))
  have HR := hid (((hr.aside 256 (by decide) (.int .i64 ((f + 255) % 256 : Nat))).front (by omega) s).aside 257 (by decide) (.int .i64 (L.length + 1)))
  rw [← hk] at HR
  have hkz : (k : Int) < 256 := by omega
  have hkl : k < 256 := by omega
  obtain ⟨t, ht⟩ := hr.all k hkl
  have c3 : w.cell? ⟨b, k, none⟩ = some (txt t) := by rw [dq_cells hc]; exact ht
  have f3 := frozen_of_row w b k _ _ hc
  have hne : ¬ k = 256 := by omega
  have HC := hid hc
  have HZ := hid hsz
  clear hk hc h1 h2 hr hsz ht hf
  go_enter Try.func15, Try.ntmps15
  go_wp2_with fail
  refine HA.out.mono ?_; rintro e w1 ⟨rfl, rfl⟩
  go_wp2_with fail
  go_region
  all_goals go_wp2_with fail
  all_goals go_ret
  all_goals refine ⟨rfl, ⟨_, k, heap_setCell_same _ b 257 _ _ _ (heap_setCell_same _ b k _ _ _ (heap_setCell_same _ b 256 _ _ _ HC.out)), ?_, ?_, ?_, ?_⟩, ?_⟩
  · simpa using HZ.out
  · rw [Array.getElem?_setIfInBounds_ne (by decide), Array.getElem?_setIfInBounds_ne (by omega), Array.getElem?_setIfInBounds_self_of_lt (by rw [HZ.out]; decide)]
  · rw [Array.getElem?_setIfInBounds_self_of_lt (by simp [HZ.out])]
    simp
  · exact HR.out
  · exact ((((Keep.refl (But b) w1).own 256 _).own k _).own 257 _).drew
set_option maxHeartbeats 2000000 in
set_option maxRecDepth 100000 in
/-- a push behind the last -/
theorem push_back (b : Nat) (L : Row) (s : List UInt8) (w : World) (h : Dq w b L) (hful : L.length < 256) : Calls Try.prog 15 #[ptr b, .bool false, txt s] w fun e w' => e = .returned (.bool true) ∧ Hid (Dq w' b (L ++ [s]) ∧ Keep (But b) w w') := by
  obtain ⟨cs, f, hc, hsz, h1, h2, hr⟩ := h
  have c1 : w.cell? ⟨b, 256, none⟩ = some (.int .i64 f) := by rw [dq_cells hc]; exact h1
  have c2 : w.cell? ⟨b, 257, none⟩ = some (.int .i64 L.length) := by rw [dq_cells hc]; exact h2
  have hz : ¬ (L.length : Int) = 256 := by omega
  have hz2 : (L.length : Int) < 256 := by omega
  have f1 := frozen_of_row w b 256 _ _ hc
  have f2 := frozen_of_row w b 257 _ _ hc
  have hf := hr.beg
  obtain ⟨k, hk⟩ : ∃ k, k = (f + L.length) % 256 := ⟨_, rfl⟩
  have HA := hid (fun w' c1 => where_any b f k L.length w' c1 hf (by omega) (by omega) (by omega) (by omega))
  have HR := hid ((hr.back (by omega) s).aside 257 (by decide) (.int .i64 (L.length + 1)))
  rw [← hk] at HR
  have hkz : (k : Int) < 256 := by omega
  have hkl : k < 256 := by omega
  obtain ⟨t, ht⟩ := hr.all k hkl
  have c3 : w.cell? ⟨b, k, none⟩ = some (txt t) := by rw [dq_cells hc]; exact ht
  have f3 := frozen_of_row w b k _ _ hc
  have hne : ¬ k = 256 := by omega
  have hne2 : ¬ k = 257 := by omega
  have HC := hid hc
  have HZ := hid hsz
  have H1 := hid h1
  clear hk hc h1 hr hsz ht hf
  go_enter Try.func15, Try.ntmps15
  go_wp2_with fail
  go_region_law (go_simp; go_at_call 23; refine (HA.out _ (by simpa using c1)).mono ?_; rintro e w1 ⟨rfl, rfl⟩)
  all_goals go_wp2_with fail
  all_goals go_ret
  all_goals refine ⟨rfl, ⟨_, f, heap_setCell_same _ b 257 _ _ _ (heap_setCell_same _ b k _ _ _ HC.out), ?_, ?_, ?_, ?_⟩, ?_⟩
  · simpa using HZ.out
  · rw [Array.getElem?_setIfInBounds_ne (by decide), Array.getElem?_setIfInBounds_ne hne]
    exact H1.out
  · rw [Array.getElem?_setIfInBounds_self_of_lt (by simp [HZ.out])]
    simp
  · exact HR.out
  · exact ((((Keep.refl (But b) w).own k _).own 257 _).drew)
set_option maxHeartbeats 2000000 in
set_option maxRecDepth 100000 in
/-- it is full -/
theorem push_full (b : Nat) (L : Row) (f : Bool) (s : List UInt8) (w : World) (h : Dq w b L) (hful : L.length = 256) : Calls Try.prog 15 #[ptr b, .bool f, txt s] w fun e w' => e = .returned (.bool false) ∧ w' = w := by
  obtain ⟨cs, g, hc, _, _, h2, _⟩ := h
  have c2 : w.cell? ⟨b, 257, none⟩ = some (.int .i64 256) := by rw [dq_cells hc, h2, hful]; rfl
  clear hc h2
  go_enter Try.func15, Try.ntmps15
  go_wp2
  go_ret
  exact ⟨rfl, rfl⟩
/-- Push -/
theorem push_any (b : Nat) (L : Row) (f : Bool) (s : List UInt8) (w : World) (h : Dq w b L) : Calls Try.prog 15 #[ptr b, .bool f, txt s] w fun e w' => e = .returned (.bool (pushB L)) ∧ Hid (Dq w' b (pushL L f s) ∧ Keep (But b) w w') := by
  by_cases hl : L.length < 256
  · rw [show pushB L = true from decide_eq_true hl, show pushL L f s = if f then s :: L else L ++ [s] from if_neg (by omega)]
    cases f
    · exact push_back b L s w h hl
    · exact push_front b L s w h hl
  · have hn : L.length = 256 := by obtain ⟨_, _, _, _, _, _, hr⟩ := h; have := hr.len; omega
    rw [show pushB L = false from decide_eq_false hl, show pushL L f s = L from if_pos (by omega)]
    exact (push_full b L f s w h hn).mono fun e w' ⟨he, hw⟩ => ⟨he, by subst hw; exact ⟨h, Keep.refl _ _⟩⟩

end Go.Proofs.Ytmlnjcmkengkhaa
