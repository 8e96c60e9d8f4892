/- The program's deque: Pop. -/
import Derived.Test.YtmlnjcmkengkhaaDeqBase
import Derived.Deep.RegionLaw
namespace Go.Proofs.Ytmlnjcmkengkhaa
open Go.RowKit

theorem Ring.tail {cs : Array Value} {f g : Nat} {L : Row} (h : Ring cs f L) (hl : 0 < L.length) (hg : g = (f + 1) % 256) (u v : Value) : Ring (((cs.setIfInBounds 256 u).setIfInBounds 257 v).setIfInBounds f (txt [])) g L.tail := by
  have hn := h.len
  have hf := h.beg
  have h1 := (((h.part 1 (L.length - 1) (by omega)).aside 256 (by decide) u).aside 257 (by decide) v).out 255 (by simp; omega) (by decide) []
  rw [← tail_eq, show ((f + 1) % 256 + 255) % 256 = f by omega, ← hg] at h1
  exact h1
theorem Ring.init {cs : Array Value} {f k : Nat} {L : Row} (h : Ring cs f L) (hl : 0 < L.length) (hk : k = (f + L.length - 1) % 256) (v : Value) : Ring ((cs.setIfInBounds 257 v).setIfInBounds k (txt [])) f L.dropLast := by
  have hn := h.len
  have hf := h.beg
  have h1 := ((h.part 0 (L.length - 1) (by omega)).aside 257 (by decide) v).out (L.length - 1) (by simp) (by omega) []
  rw [← init_eq, show (f + 0) % 256 = f by omega, show (f + (L.length - 1)) % 256 = k by omega] at h1
  exact h1
theorem getLastD_get (L : Row) (h : 0 < L.length) : L.getLastD [] = L[L.length - 1] := by
  rw [← List.getLast_eq_getElem (by intro e; subst e; simp at h), List.getLastD_eq_getLast?, List.getLast?_eq_some_getLast (by intro e; subst e; simp at h)]
  rfl
theorem headD_get (L : Row) (h : 0 < L.length) : L.headD [] = L[0] := by
  cases L with
  | nil => simp at h
  | cons x l => rfl
set_option maxHeartbeats 2000000 in
set_option maxRecDepth 100000 in
/-- nothing there -/
theorem pop_none (b : Nat) (f : Bool) (w : World) (h : Dq w b []) : Calls Try.prog 16 #[ptr b, .bool f] w fun e w' => e = .returned (.tuple #[txt [], .bool false]) ∧ w' = w := by
  obtain ⟨cs, g, hc, _, _, h2, _⟩ := h
  have c2 : w.cell? ⟨b, 257, none⟩ = some (.int .i64 0) := by rw [dq_cells hc]; exact h2
  clear hc h2
  go_enter Try.func16, Try.ntmps16
  go_wp2
  go_ret2
  exact ⟨rfl, rfl⟩
set_option maxHeartbeats 2000000 in
set_option maxRecDepth 100000 in
/-- the last -/
theorem pop_back (b : Nat) (L : Row) (w : World) (h : Dq w b L) (hl : 0 < L.length) : Calls Try.prog 16 #[ptr b, .bool false] w fun e w' => e = .returned (.tuple #[txt (L.getLastD []), .bool true]) ∧ Hid (Dq w' b L.dropLast ∧ Keep (But b) w w') := by
  obtain ⟨cs, f, hc, hsz, h1, h2, hr⟩ := h
  have c1 : w.cell? ⟨b, 256, none⟩ = some (.int .i64 f) := by rw [dq_cells hc]; exact h1
  have c2 : w.cell? ⟨b, 257, none⟩ = some (.int .i64 L.length) := by rw [dq_cells hc]; exact h2
  have hz : ¬ (L.length : Int) = 0 := by omega
  have hz0 : (0 : Int) < (L.length : Int) := by omega
  have hz2 : (L.length : Int) ≤ 256 := by have := hr.len; omega
  have f2 := frozen_of_row w b 257 _ _ hc
  have hf := hr.beg
  obtain ⟨k, hk⟩ : ∃ k, k = (f + L.length - 1) % 256 := ⟨_, rfl⟩
  have HA := hid (where_any b f k ((L.length : Int) - 1) w c1 hf (by omega) (by omega) (by omega) (by omega))
  have HR := hid (hr.init hl hk (.int .i64 ((L.length : Int) - 1)))
  have hkz : (k : Int) < 256 := by omega
  have hkl : k < 256 := by omega
  have c3 : w.cell? ⟨b, k, none⟩ = some (txt (L.getLastD [])) := by
    rw [dq_cells hc, getLastD_get L hl, ← hr.at_ (L.length - 1) (by omega), hk]
    congr 2; omega
  have f3 := frozen_of_row w b k _ _ hc
  have hne : ¬ k = 257 := by omega
  have hne6 : ¬ k = 256 := by omega
  have hne2 : ¬ 257 = k := by omega
  have HC := hid hc
  have HZ := hid hsz
  have HD : Hid (L.dropLast.length = L.length - 1) := by unfold Hid; simp
  generalize L.getLastD [] = s at *
  clear hk hc h2 hr hsz hf
  have H1 := hid h1
  clear h1
  go_enter Try.func16, Try.ntmps16
  go_wp2_with fail
  refine HA.out.mono ?_; rintro e w1 ⟨rfl, rfl⟩
  go_wp2_with fail
  all_goals go_ret2
  all_goals refine ⟨rfl, ⟨_, f, heap_setCell_same _ b k _ _ _ (heap_setCell_same _ b 257 _ _ _ HC.out), ?_, ?_, ?_, HR.out⟩, (Keep.refl (But b) w1).own 257 _ |>.own k _⟩
  · simpa using HZ.out
  · rw [Array.getElem?_setIfInBounds_ne hne6, Array.getElem?_setIfInBounds_ne (by decide)]
    exact H1.out
  · rw [Array.getElem?_setIfInBounds_ne hne, Array.getElem?_setIfInBounds_self_of_lt (by rw [HZ.out]; decide), HD.out]
    congr 2; omega
set_option maxHeartbeats 2000000 in
set_option maxRecDepth 100000 in
/-- the first -/
theorem pop_front (b : Nat) (L : Row) (w : World) (h : Dq w b L) (hl : 0 < L.length) : Calls Try.prog 16 #[ptr b, .bool true] w fun e w' => e = .returned (.tuple #[txt (L.headD []), .bool true]) ∧ Hid (Dq w' b L.tail ∧ Keep (But b) w w') := by
  obtain ⟨cs, f, hc, hsz, h1, h2, hr⟩ := h
  have c1 : w.cell? ⟨b, 256, none⟩ = some (.int .i64 f) := by rw [dq_cells hc]; exact h1
  have c2 : w.cell? ⟨b, 257, none⟩ = some (.int .i64 L.length) := by rw [dq_cells hc]; exact h2
  have hz : ¬ (L.length : Int) = 0 := by omega
  have hz0 : (0 : Int) < (L.length : Int) := by omega
  have hz2 : (L.length : Int) ≤ 256 := by have := hr.len; omega
  have f1 := frozen_of_row w b 256 _ _ hc
  have f2 := frozen_of_row w b 257 _ _ hc
  have hf := hr.beg
  have hfz : (f : Int) < 256 := by omega
  obtain ⟨k, hk⟩ : ∃ k, k = (f + L.length - 1) % 256 := ⟨_, rfl⟩
  obtain ⟨g, hg⟩ : ∃ g, g = (f + 1) % 256 := ⟨_, rfl⟩
  have HA := hid (where_any b f k ((L.length : Int) - 1) w c1 hf (by omega) (by omega) (by omega) (by omega))
  have HB := hid (fun w' c1 => where_any b f g 1 w' c1 hf (by omega) (by omega) (by omega) (by omega))
  have HR := hid (hr.tail hl hg (.int .i64 g) (.int .i64 ((L.length : Int) - 1)))
  have c3 : w.cell? ⟨b, f, none⟩ = some (txt (L.headD [])) := by
    rw [dq_cells hc, headD_get L hl, ← hr.at_ 0 (by omega)]
    congr 1; omega
  have f3 := frozen_of_row w b f _ _ hc
  have hne : ¬ f = 257 := by omega
  have hne6 : ¬ f = 256 := by omega
  have HC := hid hc
  have HZ := hid hsz
  have HD : Hid (L.tail.length = L.length - 1) := by unfold Hid; simp
  generalize L.headD [] = s at *
  clear hk hg hc h2 hr hsz h1
  go_enter Try.func16, Try.ntmps16
  go_wp2_with fail
  refine HA.out.mono ?_; rintro e w1 ⟨rfl, rfl⟩
  go_wp2_with fail
  go_region_law (go_simp; go_at_call 23; refine (HB.out _ (by simpa using c1)).mono ?_; rintro e w1 ⟨rfl, rfl⟩)
  all_goals go_wp2_with fail
  all_goals go_ret2
  all_goals
    refine ⟨rfl, ⟨_, g, heap_setCell_same _ b f _ _ _ (heap_setCell_same _ b 257 _ _ _ (heap_setCell_same _ b 256 _ _ _ HC.out)), ?_, ?_, ?_, HR.out⟩, ?_⟩
    · simpa using HZ.out
    · rw [Array.getElem?_setIfInBounds_ne hne6, Array.getElem?_setIfInBounds_ne (by decide), Array.getElem?_setIfInBounds_self_of_lt (by rw [HZ.out]; decide)]
    · rw [Array.getElem?_setIfInBounds_ne hne, Array.getElem?_setIfInBounds_self_of_lt (by simp [HZ.out]), HD.out]
      congr 2; omega
    · exact ((((Keep.refl (But b) _).own 256 _).drew).own 257 _).own f _
/-- Pop -/
theorem pop_any (b : Nat) (L : Row) (f : Bool) (w : World) (h : Dq w b L) : Calls Try.prog 16 #[ptr b, .bool f] w fun e w' => e = .returned (.tuple #[txt (popS L f), .bool (popB L)]) ∧ Hid (Dq w' b (popL L f) ∧ Keep (But b) w w') := by
  by_cases hl : L = []
  · subst hl
    rw [show popS [] f = [] by cases f <;> rfl, show popB [] = false from rfl, show popL [] f = [] by cases f <;> rfl]
    exact (pop_none b f w h).mono fun e w' ⟨he, hw⟩ => ⟨he, by subst hw; exact ⟨h, Keep.refl _ _⟩⟩
  · have hp : 0 < L.length := List.length_pos_iff.2 hl
    rw [show popB L = true by cases L with | nil => exact absurd rfl hl | cons _ _ => rfl]
    cases f
    · exact pop_back b L w h hp
    · exact pop_front b L w h hp

end Go.Proofs.Ytmlnjcmkengkhaa
