/- TableStands over the contracts. -/
import Derived.Test.YtndmhfhihajbdaaAlive
namespace Go.Proofs.Ytndmhfhihajbdaa
open Go.RowKit

theorem sel_sub {p : Nat → Bool} : ∀ (l : Row) (k : Nat), (selL p k l).Sublist l
  | [], _ => List.Sublist.refl _
  | x :: r, k => by
    rw [selL]
    split
    · exact (sel_sub r (k + 1)).cons_cons x
    · exact (sel_sub r (k + 1)).cons x
theorem keys_sub (l : Row) : (keysL l).Sublist (l.drop 1) := sel_sub _ _
theorem sub_lt {k : Nm} {r l : Row} {a : Nat} (h : (k :: r).Sublist (l.drop a)) : a < l.length := by
  have := h.length_le
  rw [List.length_drop, List.length_cons] at this
  omega
theorem sub_yes {k : Nm} {r l : Row} {a : Nat} (hl : a < l.length) (h : (k :: r).Sublist (l.drop a)) : r.Sublist (l.drop (a + 1)) := by
  rw [drop_step hl] at h
  cases h with
  | cons _ h => exact (List.sublist_cons_self _ _).trans h
  | cons_cons _ h => exact h
theorem sub_no {k : Nm} {r l : Row} {a : Nat} (hl : a < l.length) (hne : l[a] ≠ k) (h : (k :: r).Sublist (l.drop a)) : (k :: r).Sublist (l.drop (a + 1)) := by
  rw [drop_step hl] at h
  cases h with
  | cons _ h => exact h
  | cons_cons _ h => exact absurd rfl hne
/-- a command that writes has a key -/
def wrB (s : Sp) : Bool := !s.wr || decide (s.fi = 1)
theorem wr_rows : rowsL.all wrB = true := by decide
theorem writes_keys (l : Row) (hE : (chk l).2 = 0) (hw : (chk l).1.wr = true) : keysL l ≠ [] := by
  rcases chk_cases l with ⟨_, h⟩ | ⟨_, hok, hle⟩
  · exact absurd hE h
  · have hfi : (chk l).1.fi = 1 := by
      cases l with
      | nil => cases hE
      | cons n r =>
        rw [chk] at hE hw ⊢
        split at hE
        · split at hE
          · rename_i h1 h2
            rw [if_pos h1, if_pos h2] at hw ⊢
            dsimp only at hw ⊢
            have := List.all_eq_true.1 wr_rows (spec (great n)) (by rw [spec_eq]; exact List.getElem_mem _)
            simpa [wrB, hw] using this
          · cases hE
        · cases hE
    obtain ⟨C, hC⟩ : ∃ C, C = chk l := ⟨_, rfl⟩
    have hP : pks l = fun i => decide (C.2 = 0) && pk C.1 i := by rw [hC]; rfl
    rw [← hC] at hok hle hfi hE
    obtain ⟨⟨nm, le, mo, fi, la, st, wr⟩, E⟩ := C
    dsimp only at hok hle hfi hE hP
    subst hfi hE
    obtain ⟨b1, b2, b3, b4, hk⟩ := OkS.of hok
    have hl2 : 1 < l.length := by rcases hk with ⟨h, _⟩ | ⟨_, h, _⟩ <;> omega
    have hp1 : pks l 1 = true := by
      rw [hP]
      rcases hk with ⟨h, _⟩ | ⟨_, _, ⟨rfl, rfl⟩ | ⟨rfl, rfl⟩ | ⟨rfl, rfl⟩⟩
      · cases h
      · simp only [pk_one (Nat.le_refl 1)]; rfl
      · simp only [pk_all (Nat.le_refl 1)]; rfl
      · simp only [pk_two (Nat.le_refl 1)]; rfl
    unfold keysL
    rw [sel_yes hl2 hp1]
    exact List.cons_ne_nil _ _
set_option maxHeartbeats 8000000 in
set_option maxRecDepth 100000 in
theorem stands_any (p : Option Addr) (l : Row) (c : Nat) (w : World) (h : Rd w p c l) (hn : l.length ≤ 9223372036854775807) (ht : Txs l) :
    Calls Try.prog 8 #[.slice p l.length c] w fun e w' => e = .returned (.bool true) ∧ Below w.heap.size w w' := by
  by_cases hl : 200 < l.length
  · have hlz : 200 < (l.length : Int) := by omega
    clear h ht hl
    go_enter Try.func8, Try.ntmps8
    go_wp2_with fail
    refine (alive_any _).mono ?_
    rintro _ W1 ⟨rfl, HW1⟩
    go_wp2_with fail
    go_ret
    exact ⟨rfl, HW1.out⟩
  have hlz : (l.length : Int) ≤ 200 := by omega
  have H1 := hid (keys_any p c l w h (by omega) ht)
  have H2 : Hid (∀ W, Below w.heap.size w W → _) := fun W hb => check_any p c l W (h.below hb) (by omega) ht
  have HD := hid h
  have HWK := hid (writes_keys l)
  have HSub := hid (keys_sub l)
  have HKl := hid (keys_len l)
  generalize keysL l = K at *
  generalize (chk l).1 = s at *
  generalize (chk l).2 = E at *
  obtain ⟨nm, le, mo, fi, la, st, wrt⟩ := s
  have hKz : (K.length : Int) ≤ 200 := by have := HKl.out; omega
  clear h ht hl
  go_enter Try.func8, Try.ntmps8
  go_wp2_with fail
  refine H1.out.mono ?_
  rintro _ W1 ⟨q, d, rfl, HW1⟩
  have HB1 := hid HW1.out.2
  have HK1 := hid HW1.out.1.rd.strs
  have HD1 := hid (HD.out.below HW1.out.2).strs
  clear HW1 HD H1
  go_wp2_with fail
  go_loopw [3, 17] (fun v3 v17 W => ∃ a j : Nat, v3 = .int .i64 a ∧ v17 = .int .i64 j ∧ 1 ≤ a ∧ a ≤ l.length + 1 ∧ j ≤ K.length ∧ Hid ((K.drop j).Sublist (l.drop a)) ∧ W = W1) (fun _ v17 _ => K.length - (intOf v17).toNat)
  case atStart => exact ⟨1, 0, rfl, rfl, by decide, by omega, Nat.zero_le _, HSub.out, rfl⟩
  case round =>
    obtain ⟨a, j, rfl, rfl, ha1, ha2, hj, HS, rfl⟩ := hrel
    by_cases hlt : j < K.length
    · have hjz : (j : Int) < (K.length : Int) := by omega
      have haz : (a : Int) ≤ 201 := by omega
      obtain ⟨b, o, rfl, hc⟩ := HK1.out (fun e => by rw [e] at hlt; simp at hlt)
      have x0 := hc j hlt
      have HS2 := HS.out
      rw [drop_step hlt] at HS2
      have HS3 := hid HS2
      clear hc HS2 HS
      generalize K[j] = k at *
      obtain ⟨r, hr⟩ : ∃ r, r = K.drop (j + 1) := ⟨_, rfl⟩
      rw [← hr] at HS3
      have HRr := hid hr
      clear hr
      go_wp2_with fail
      go_loopw [3] (fun v3 W => ∃ a : Nat, v3 = .int .i64 a ∧ 1 ≤ a ∧ Hid ((k :: r).Sublist (l.drop a)) ∧ W = wr) (fun v3 _ => l.length - (intOf v3).toNat)
      case atStart => exact ⟨a, rfl, ha1, HS3.out, rfl⟩
      case round =>
        obtain ⟨a, rfl, ha1, HS, rfl⟩ := hrel
        have hal := sub_lt HS.out
        have haz : (a : Int) < (l.length : Int) := by omega
        obtain ⟨b2, o2, rfl, hc⟩ := HD1.out (fun e => by rw [e] at hal; simp at hal)
        have y0 := hc a hal
        have HY := hid (sub_yes hal HS.out)
        have HN := hid (fun hne => sub_no hal hne HS.out)
        clear hc
        generalize l[a] = t at *
        by_cases e : t = k
        · subst e
          have HY2 : Hid ((K.drop (j + 1)).Sublist (l.drop (a + 1))) := by rw [← HRr.out]; exact HY
          clear HN HY
          go_wp2_with fail
          exact ⟨⟨a + 1, j + 1, by go_num, by go_num, by omega, by omega, by omega, HY2.out, trivial⟩, by simp [intOf]; omega⟩
        · have hb : (t != k) = true := bne_iff_ne.2 e
          have hb2 : (t == k) = false := beq_eq_false_iff_ne.2 e
          have HN2 := hid (HN.out e)
          clear HN HY e
          go_wp2_with fail
          exact ⟨⟨a + 1, by go_num, by omega, HN2.out, trivial⟩, by simp [intOf]; omega⟩
    · have hjz : ¬ (j : Int) < (K.length : Int) := by omega
      clear HK1 HD1 HS
      go_wp2_with fail
      refine (H2.out _ HB1.out).mono ?_
      rintro _ W3 ⟨rfl, HW3⟩
      have hb2 := below_alloc W3 (.cells #[txt nm, .int .i64 le, .int .i64 mo, .int .i64 fi, .int .i64 la, .int .i64 st, .bool wrt] 25)
      have HB3 := hid (HB1.out.trans (HW3.out.mono HB1.out.size))
      have HB4 := hid (HB3.out.trans (hb2.mono HB3.out.size))
      have HS4 := hid (heap_alloc_new W3 (.cells #[txt nm, .int .i64 le, .int .i64 mo, .int .i64 fi, .int .i64 la, .int .i64 st, .bool wrt] 25))
      clear hb2 HW3
      simp only [Sp.cs] at ⊢
      go_wp2_with fail
      refine (alive_any _).mono ?_
      rintro _ W5 ⟨rfl, HW5⟩
      have hS5 := (HW5.out.block W3.heap.size (by simp)).trans HS4.out
      have x6 : W5.cell? ⟨W3.heap.size, 6, none⟩ = some (.bool wrt) := (cell_of_row _ _ 6 _ _ _ hS5).trans rfl
      have HB5 := hid (HB4.out.trans (HW5.out.mono HB4.out.size))
      clear hS5 HW5 HS4 HB4
      by_cases hE : E = 0
      · cases wrt with
        | false =>
          clear HWK
          subst hE
          go_wp2_with fail
          go_ret
          exact ⟨rfl, HB5.out⟩
        | true =>
          have HKp := hid (decide_eq_true (List.length_pos_iff.2 (HWK.out hE rfl)))
          clear HWK
          subst hE
          go_wp2_with fail
          go_ret
          refine ⟨?_, HB5.out⟩
          show Ending.returned (.bool (decide (0 < K.length))) = _
          rw [HKp.out]
      · have hEb : (E != 0) = true := bne_iff_ne.2 hE
        clear HWK
        go_wp2_with fail
        go_ret
        exact ⟨rfl, HB5.out⟩

end Go.Proofs.Ytndmhfhihajbdaa
