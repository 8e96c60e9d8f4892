/- The program's deque: At, Put. -/
import Derived.Test.YtmlnjcmkengkhaaDeqBase
namespace Go.Proofs.Ytmlnjcmkengkhaa
open Go.RowKit

theorem clamp_yes {n k : Nat} {i : Int} (h : spot n i = some k) : clA i i n = k ∧ clB i i n = k + 1 := by
  have := spot_lt h
  unfold clA clB lstP fstP plc
  split
  · omega
  · split <;> (repeat' split) <;> omega
theorem clamp_no {n : Nat} {i : Int} (h : spot n i = none) : clA i i n = 0 ∧ clB i i n = 0 := by
  have := spot_no h
  unfold clA clB lstP fstP plc
  split
  · omega
  · split <;> (repeat' split) <;> omega
set_option maxHeartbeats 2000000 in
set_option maxRecDepth 100000 in
/-- place, of two numbers that Clamp tells -/
theorem place_of (b f n x k : Nat) (i y : Int) (w : World) (c1 : w.cell? ⟨b, 256, none⟩ = some (.int .i64 f)) (c2 : w.cell? ⟨b, 257, none⟩ = some (.int .i64 n)) (hf : f < 256) (hn : n ≤ 256)
    (i0 : -9223372036854775808 ≤ i) (i1 : i ≤ 9223372036854775807) (hx : clA i i n = x) (hy : clB i i n = y) (hxn : x ≤ 256) (hk : k = (f + x) % 256) :
    Calls Try.prog 32 #[ptr b, .int .i64 i] w fun e w' => e = .returned (.tuple #[.int .i64 k, .bool (decide ((x : Int) < y))]) ∧ w' = w := by
  have HC := hid (clamp_any i i n w i0 i1 i0 i1 (by omega) (by omega))
  rw [hx, hy] at HC
  have HW := hid (where_any b f k x w c1 hf (by omega) (by omega) (by omega) (by omega))
  clear hx hy hk hf c1
  have hxz : (x : Int) ≤ 256 := by omega
  go_enter Try.func32, Try.ntmps32
  go_wp2_with fail
  refine HC.out.mono ?_; rintro e w1 ⟨rfl, rfl⟩
  go_wp2_with fail
  refine HW.out.mono ?_; rintro e w1 ⟨rfl, rfl⟩
  go_wp2_with fail
  all_goals go_ret2
  all_goals exact ⟨rfl, rfl⟩
set_option maxHeartbeats 2000000 in
set_option maxRecDepth 100000 in
/-- At -/
theorem at_any (b : Nat) (L : Row) (i : Int) (w : World) (h : Dq w b L) (i0 : -9223372036854775808 ≤ i) (i1 : i ≤ 9223372036854775807) : Calls Try.prog 24 #[ptr b, .int .i64 i] w fun e w' => e = .returned (.tuple #[txt (atS L i), .bool (atB L i)]) ∧ Hid (Dq w' b L ∧ Keep (But b) w w') := by
  have H := hid h
  obtain ⟨cs, f, hc, hsz, h1, h2, hr⟩ := h
  have c1 : w.cell? ⟨b, 256, none⟩ = some (.int .i64 f) := by rw [dq_cells hc]; exact h1
  have c2 : w.cell? ⟨b, 257, none⟩ = some (.int .i64 L.length) := by rw [dq_cells hc]; exact h2
  have hn := hr.len
  have hf := hr.beg
  cases hs : spot L.length i with
  | none =>
    have hcl := clamp_no hs
    have HP := hid (place_of b f L.length 0 f i 0 w c1 c2 hf hn i0 i1 hcl.1 hcl.2 (by decide) (by omega))
    rw [show atS L i = [] by unfold atS; rw [hs], show atB L i = false by unfold atB; rw [hs]; rfl]
    clear hc h1 h2 hr hsz c1 c2 hs hcl
    go_enter Try.func24, Try.ntmps24
    go_wp2_with fail
    refine HP.out.mono ?_; rintro e w1 ⟨rfl, rfl⟩
    go_wp2_with fail
    all_goals go_ret2
    all_goals exact ⟨rfl, H.out, Keep.refl _ _⟩
  | some k =>
    have hcl := clamp_yes hs
    have hlt := (spot_lt hs).1
    obtain ⟨j, hj⟩ : ∃ j, j = (f + k) % 256 := ⟨_, rfl⟩
    have HP := hid (place_of b f L.length k j i (k + 1) w c1 c2 hf hn i0 i1 hcl.1 hcl.2 (by omega) hj)
    rw [show decide ((k : Int) < k + 1) = true from decide_eq_true (by omega)] at HP
    rw [show atS L i = L[k] by unfold atS; rw [hs]; simp [List.getD, hlt], show atB L i = true by unfold atB; rw [hs]; rfl]
    have c3 : w.cell? ⟨b, j, none⟩ = some (txt L[k]) := by rw [dq_cells hc, hj, hr.at_ k hlt]
    have hjz : (j : Int) < 256 := by omega
    generalize L[k] = s at *
    clear hc h1 h2 hr hsz c1 c2 hs hcl hj
    go_enter Try.func24, Try.ntmps24
    go_wp2_with fail
    refine HP.out.mono ?_; rintro e w1 ⟨rfl, rfl⟩
    go_wp2_with fail
    all_goals go_ret2
    all_goals exact ⟨rfl, H.out, Keep.refl _ _⟩
set_option maxHeartbeats 2000000 in
set_option maxRecDepth 100000 in
/-- Put -/
theorem put_any (b : Nat) (L : Row) (i : Int) (s : List UInt8) (w : World) (h : Dq w b L) (i0 : -9223372036854775808 ≤ i) (i1 : i ≤ 9223372036854775807) : Calls Try.prog 25 #[ptr b, .int .i64 i, txt s] w fun e w' => e = .returned (.bool (atB L i)) ∧ Hid (Dq w' b (putL L i s) ∧ Keep (But b) w w') := by
  have H := hid h
  obtain ⟨cs, f, hc, hsz, h1, h2, hr⟩ := h
  have c1 : w.cell? ⟨b, 256, none⟩ = some (.int .i64 f) := by rw [dq_cells hc]; exact h1
  have c2 : w.cell? ⟨b, 257, none⟩ = some (.int .i64 L.length) := by rw [dq_cells hc]; exact h2
  have hn := hr.len
  have hf := hr.beg
  cases hs : spot L.length i with
  | none =>
    have hcl := clamp_no hs
    have HP := hid (place_of b f L.length 0 f i 0 w c1 c2 hf hn i0 i1 hcl.1 hcl.2 (by decide) (by omega))
    rw [show putL L i s = L by unfold putL; rw [hs], show atB L i = false by unfold atB; rw [hs]; rfl]
    clear hc h1 h2 hr hsz c1 c2 hs hcl
    go_enter Try.func25, Try.ntmps25
    go_wp2_with fail
    refine HP.out.mono ?_; rintro e w1 ⟨rfl, rfl⟩
    go_wp2_with fail
    all_goals go_ret
    all_goals exact ⟨rfl, H.out, Keep.refl _ _⟩
  | some k =>
    have hcl := clamp_yes hs
    have hlt := (spot_lt hs).1
    obtain ⟨j, hj⟩ : ∃ j, j = (f + k) % 256 := ⟨_, rfl⟩
    have HP := hid (place_of b f L.length k j i (k + 1) w c1 c2 hf hn i0 i1 hcl.1 hcl.2 (by omega) hj)
    rw [show decide ((k : Int) < k + 1) = true from decide_eq_true (by omega)] at HP
    rw [show putL L i s = L.set k s by unfold putL; rw [hs], show atB L i = true by unfold atB; rw [hs]; rfl]
    have HR := hid (hr.put k hlt s)
    rw [← hj] at HR
    have hjl : j < 256 := by omega
    obtain ⟨t, ht⟩ := hr.all j hjl
    have c3 : w.cell? ⟨b, j, none⟩ = some (txt t) := by rw [dq_cells hc]; exact ht
    have f3 := frozen_of_row w b j _ _ hc
    have hjz : (j : Int) < 256 := by omega
    have HC := hid hc
    have HZ := hid hsz
    have H1 := hid h1
    have H2 := hid h2
    clear hc h1 h2 hr hsz c1 c2 hs hcl hj ht
    go_enter Try.func25, Try.ntmps25
    go_wp2_with fail
    refine HP.out.mono ?_; rintro e w1 ⟨rfl, rfl⟩
    go_wp2_with fail
    all_goals go_ret
    all_goals
      refine ⟨rfl, ⟨_, f, heap_setCell_same _ b j _ _ _ HC.out, ?_, ?_, ?_, HR.out⟩, (Keep.refl (But b) _).own j _⟩
      · simpa using HZ.out
      · rw [Array.getElem?_setIfInBounds_ne (by omega)]
        exact H1.out
      · rw [Array.getElem?_setIfInBounds_ne (by omega), List.length_set]
        exact H2.out

end Go.Proofs.Ytmlnjcmkengkhaa
