/- The program's deque: Trim. -/
import Derived.Test.YtmlnjcmkengkhaaDeqPop
namespace Go.Proofs.Ytmlnjcmkengkhaa
open Go.RowKit

theorem dq_many {w : World} {b : Nat} {L : Row} (h : Dq w b L) : w.cell? ⟨b, 257, none⟩ = some (.int .i64 L.length) := by
  obtain ⟨cs, f, hc, _, _, h2, _⟩ := h
  rw [dq_cells hc]; exact h2
theorem dq_len {w : World} {b : Nat} {L : Row} (h : Dq w b L) : L.length ≤ 256 := by
  obtain ⟨cs, f, _, _, _, _, hr⟩ := h
  exact hr.len
/-- what a cell says -/
def said (w : World) (b : Nat) : Nat := match w.cell? ⟨b, 257, none⟩ with | some (.int _ n) => n.toNat | _ => 0
theorem said_dq {w : World} {b : Nat} {L : Row} (h : Dq w b L) : said w b = L.length := by unfold said; rw [dq_many h]; simp
theorem init_take (L : Row) (n : Nat) (h : n < L.length) : (L.take (n + 1)).dropLast = L.take n := by
  rw [List.dropLast_eq_take, List.take_take, List.length_take]; congr 1; omega
set_option maxHeartbeats 2000000 in
set_option maxRecDepth 100000 in
/-- Trim -/
theorem trim_any (b : Nat) (L : Row) (f t : Int) (w : World) (h : Dq w b L) (f0 : -9223372036854775808 ≤ f) (f1 : f ≤ 9223372036854775807) (t0 : -9223372036854775808 ≤ t) (t1 : t ≤ 9223372036854775807) :
    Calls Try.prog 19 #[ptr b, .int .i64 f, .int .i64 t] w fun e w' => e = .returned (.tuple #[]) ∧ Hid (Dq w' b (rangeL L f t) ∧ Keep (But b) w w') := by
  have HD := hid h
  have hn := dq_len h
  have c2 := dq_many h
  have HC := hid (clamp_any f t L.length w f0 f1 t0 t1 (by omega) (by omega))
  obtain ⟨r1, r2, r3, r4⟩ := range_bounds L f t
  obtain ⟨x, hx⟩ : ∃ x, x = (clA f t L.length).toNat := ⟨_, rfl⟩
  obtain ⟨y, hy⟩ : ∃ y, y = (clB f t L.length).toNat := ⟨_, rfl⟩
  rw [show rangeL L f t = (L.take y).drop x by unfold rangeL; rw [← hx, ← hy, List.drop_take]]
  rw [← hx, ← hy] at r1
  rw [← hy] at r2
  rw [show clA f t L.length = (x : Int) by omega, show clB f t L.length = (y : Int) by omega] at HC
  clear hx hy h r3 r4
  have hnz : (L.length : Int) ≤ 256 := by omega
  have hyz : (y : Int) ≤ 256 := by omega
  have hxz : (x : Int) ≤ 256 := by omega
  go_enter Try.func19, Try.ntmps19
  go_wp2_with fail
  refine HC.out.mono ?_; rintro e w1 ⟨rfl, rfl⟩
  go_wp2_with fail
  go_loopw [24] (fun _ W => ∃ n : Nat, y ≤ n ∧ n ≤ L.length ∧ Hid (Dq W b (L.take n)) ∧ Hid (Keep (But b) w1 W)) (fun _ W => said W b)
  case atStart => exact ⟨L.length, r2, Nat.le_refl _, by rw [List.take_length]; exact HD.out, Keep.refl _ _⟩
  case round =>
    obtain ⟨n, hn0, hn1, HDn, HKn⟩ := hrel
    have hln : (L.take n).length = n := by simp; omega
    have c3 := dq_many HDn.out
    rw [hln] at c3
    by_cases hlt : y < n
    · obtain ⟨m, rfl⟩ : ∃ m, n = m + 1 := ⟨n - 1, by omega⟩
      have hltz : (y : Int) < ((m + 1 : Nat) : Int) := by omega
      have HP := hid (pop_any b (L.take (m + 1)) false _ HDn.out)
      rw [show popL (L.take (m + 1)) false = L.take m from init_take L m (by omega)] at HP
      go_wp2_with fail
      refine HP.out.mono ?_; rintro e w2 ⟨rfl, hh⟩
      have H2 := hid hh.out
      clear hh
      go_wp2_with fail
      refine ⟨⟨m, by omega, by omega, H2.out.1, HKn.out.trans H2.out.2⟩, ?_⟩
      rw [said_dq HDn.out, said_dq H2.out.1]
      simp; omega
    · obtain rfl : n = y := by omega
      go_wp2_with fail
      go_loopw [26] (fun v26 W => ∃ i : Nat, v26 = .int .i64 i ∧ i ≤ x ∧ Hid (Dq W b ((L.take n).drop i)) ∧ Hid (Keep (But b) w1 W)) (fun v26 _ => x - (intOf v26).toNat)
      case atStart => exact ⟨0, rfl, Nat.zero_le _, by rw [List.drop_zero]; exact HDn.out, HKn.out⟩
      case round =>
        obtain ⟨i, rfl, hi, HDi, HKi⟩ := hrel
        by_cases hlt2 : i < x
        · have HP := hid (pop_any b ((L.take n).drop i) true _ HDi.out)
          rw [show popL ((L.take n).drop i) true = (L.take n).drop (i + 1) from List.tail_drop] at HP
          have hz : (i : Int) < (x : Int) := by omega
          go_wp2_with fail
          refine HP.out.mono ?_; rintro e w2 ⟨rfl, hh⟩
          have H2 := hid hh.out
          clear hh
          go_wp2_with fail
          exact ⟨⟨i + 1, by go_num, by omega, H2.out.1, HKi.out.trans H2.out.2⟩, by simp [intOf]; omega⟩
        · obtain rfl : i = x := by omega
          go_wp2_with fail
          go_end0
          exact ⟨rfl, HDi.out, HKi.out⟩

end Go.Proofs.Ytmlnjcmkengkhaa
