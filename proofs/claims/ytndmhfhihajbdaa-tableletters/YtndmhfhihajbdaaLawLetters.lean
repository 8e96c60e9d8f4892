/- TableLetters over the contracts. -/
import Derived.Test.YtndmhfhihajbdaaLawFinds
import Derived.Test.YtndmhfhihajbdaaOpenStrs
import Derived.Laws.BitsAllLaws
namespace Go.Proofs.Ytndmhfhihajbdaa
open Go.RowKit

/-- a letter's other form is the same letter -/
theorem up_turn (c : UInt8) (h : (65 ≤ (c.toNat : Int) ∧ (c.toNat : Int) ≤ 90) ∨ (97 ≤ (c.toNat : Int) ∧ (c.toNat : Int) ≤ 122)) : up (c ^^^ 32) = up c := by
  have key : ∀ c : BitVec 8, ((65 ≤ c.toNat ∧ c.toNat ≤ 90) ∨ (97 ≤ c.toNat ∧ c.toNat ≤ 122)) → up (⟨c⟩ ^^^ 32) = up ⟨c⟩ := by decide +kernel
  refine key c.toBitVec ?_
  have : c.toBitVec.toNat = c.toNat := rfl
  omega
theorem xor_num (c : UInt8) : bits BinOp.xor IntKind.u8 (c.toNat : Int) 32 = ((c ^^^ 32).toNat : Int) := by
  have h := u8_xor_nat c.toNat 32 (UInt8.toNat_lt c) (by decide)
  have e : (c ^^^ 32).toNat = c.toNat ^^^ 32 := by simp
  rw [e]
  exact h
theorem great_set {B : Nm} {i : Nat} (h : i < B.length) (c : UInt8) (hc : up c = up B[i]) : great (B.set i c) = great B := by
  unfold great
  rw [List.map_set, hc]
  have : up B[i] = (B.map up)[i]'(by simpa using h) := by simp
  rw [this, List.set_getElem_self]
theorem five (z : Int) : z < 65 ∨ (65 ≤ z ∧ z ≤ 90) ∨ (90 < z ∧ z < 97) ∨ (97 ≤ z ∧ z ≤ 122) ∨ 122 < z := by omega
set_option maxHeartbeats 16000000 in
set_option maxRecDepth 100000 in
theorem letters_any (l : Nm) (p : Option Addr) (tn : List Bool) (ct : Nat) (w : World) (hl : l.length ≤ 9223372036854775807) (hT : Bls w p tn) (hn : tn.length ≤ 9223372036854775807) :
    Calls Try.prog 7 #[txt l, .slice p tn.length ct] w fun e w' => e = .returned (.bool true) ∧ Below w.heap.size w w' := by
  obtain ⟨cap, W0, hconv, hB0, hW0, hcap⟩ := conv_any l w
  have H0 : Hid (∃ B : Nm, Byt W0 w.heap.size B ∧ B.length = l.length ∧ great B = great l) := ⟨l, hB0, rfl, rfl⟩
  have HW0 := hid hW0
  have HT := hid hT
  have hlz : (l.length : Int) ≤ 9223372036854775807 := by omega
  have hnz : (tn.length : Int) ≤ 9223372036854775807 := by omega
  have H1 : Hid (∀ W, _) := fun W => find_any l W hl
  have H2 : Hid (∀ (W : World) (B : Nm), B.length = l.length → great B = great l → _) := fun W B hb hg => find_any B W (by omega)
  clear hB0 hW0 hT
  go_enter Try.func7, Try.ntmps7
  go_wp2_with fail
  go_loopw [17] (fun v17 W => ∃ i : Nat, v17 = .int .i64 i ∧ i ≤ l.length ∧ Hid (∃ B : Nm, Byt W w.heap.size B ∧ B.length = l.length ∧ great B = great l) ∧ Hid (Below w.heap.size w W)) (fun v17 _ => l.length - (intOf v17).toNat)
  case atStart => exact ⟨0, rfl, Nat.zero_le _, H0.out, HW0.out⟩
  case round =>
    obtain ⟨i, rfl, hi, HB, HW⟩ := hrel
    by_cases hlt : i < l.length
    · have hiz : (i : Int) < (l.length : Int) := by omega
      obtain ⟨B, hB, hBl, hBg⟩ := HB.out
      have hib : i < B.length := by omega
      have x0 := hB.cell i hib
      have hf := hB.frozen i hib
      have HS : Hid (up (B[i] ^^^ 32) = up B[i] → ∃ B' : Nm, Byt (wr.setCell ⟨w.heap.size, i, none⟩ (.int .u8 ((B[i] ^^^ 32).toNat : Int))) w.heap.size B' ∧ B'.length = l.length ∧ great B' = great l) := fun hu =>
        ⟨B.set i (B[i] ^^^ 32), hB.set i _, by rw [List.length_set]; exact hBl, (great_set hib _ hu).trans hBg⟩
      have HU := hid (up_turn B[i])
      have hx := xor_num B[i]
      have HW2 := hid (HW.out.setCell (p := ⟨w.heap.size, i, none⟩) (Nat.le_refl _) (.int .u8 ((B[i] ^^^ 32).toNat : Int)))
      have hz0 : 0 ≤ (B[i].toNat : Int) := by omega
      have hz1 : (B[i].toNat : Int) ≤ 255 := by have := UInt8.toNat_lt B[i]; omega
      generalize B[i] = c at *
      clear hB hBl hBg hib hconv
      have HC : Hid ((65 ≤ (c.toNat : Int) ∧ (c.toNat : Int) ≤ 90) ∨ (97 ≤ (c.toNat : Int) ∧ (c.toNat : Int) ≤ 122) → ∃ B' : Nm, Byt (wr.setCell ⟨w.heap.size, i, none⟩ (.int .u8 ((c ^^^ 32).toNat : Int))) w.heap.size B' ∧ B'.length = l.length ∧ great B' = great l) := fun h => HS.out (HU.out h)
      clear HS HU
      generalize ((c ^^^ 32).toNat : Int) = z2 at *
      generalize (c.toNat : Int) = z at *
      by_cases ht : i < tn.length
      · have htz : (i : Int) < (tn.length : Int) := by omega
        obtain ⟨tb, to, rfl, hc⟩ := HT.out (fun e => by rw [e] at ht; simp at ht)
        have y0 := hc i ht
        have hbl := block_lt_of_cell y0
        have y1 := cell_turn y0 (HW.out.block tb hbl)
        clear hc y0
        generalize tn[i] = tv at *
        cases tv with
        | true =>
          rcases five z with g1 | ⟨g1, g2⟩ | ⟨g1, g2⟩ | ⟨g1, g2⟩ | g1
          · clear HC HW2
            go_wp2_with fail
            exact ⟨⟨i + 1, by go_num, by omega, HB.out, HW.out⟩, by simp [intOf]; omega⟩
          · have HCC := hid (HC.out (.inl ⟨g1, g2⟩))
            clear HC
            go_wp2_with fail
            exact ⟨⟨i + 1, by go_num, by omega, HCC.out, HW2.out⟩, by simp [intOf]; omega⟩
          · clear HC HW2
            go_wp2_with fail
            exact ⟨⟨i + 1, by go_num, by omega, HB.out, HW.out⟩, by simp [intOf]; omega⟩
          · have HCC := hid (HC.out (.inr ⟨g1, g2⟩))
            clear HC
            go_wp2_with fail
            exact ⟨⟨i + 1, by go_num, by omega, HCC.out, HW2.out⟩, by simp [intOf]; omega⟩
          · clear HC HW2
            go_wp2_with fail
            exact ⟨⟨i + 1, by go_num, by omega, HB.out, HW.out⟩, by simp [intOf]; omega⟩
        | false =>
          clear HC HW2
          rcases five z with g1 | ⟨g1, g2⟩ | ⟨g1, g2⟩ | ⟨g1, g2⟩ | g1
          · go_wp2_with fail
            exact ⟨⟨i + 1, by go_num, by omega, HB.out, HW.out⟩, by simp [intOf]; omega⟩
          · go_wp2_with fail
            exact ⟨⟨i + 1, by go_num, by omega, HB.out, HW.out⟩, by simp [intOf]; omega⟩
          · go_wp2_with fail
            exact ⟨⟨i + 1, by go_num, by omega, HB.out, HW.out⟩, by simp [intOf]; omega⟩
          · go_wp2_with fail
            exact ⟨⟨i + 1, by go_num, by omega, HB.out, HW.out⟩, by simp [intOf]; omega⟩
          · go_wp2_with fail
            exact ⟨⟨i + 1, by go_num, by omega, HB.out, HW.out⟩, by simp [intOf]; omega⟩
      · have htz : ¬ (i : Int) < (tn.length : Int) := by omega
        clear HC HW2
        rcases five z with g1 | ⟨g1, g2⟩ | ⟨g1, g2⟩ | ⟨g1, g2⟩ | g1
        · go_wp2_with fail
          exact ⟨⟨i + 1, by go_num, by omega, HB.out, HW.out⟩, by simp [intOf]; omega⟩
        · go_wp2_with fail
          exact ⟨⟨i + 1, by go_num, by omega, HB.out, HW.out⟩, by simp [intOf]; omega⟩
        · go_wp2_with fail
          exact ⟨⟨i + 1, by go_num, by omega, HB.out, HW.out⟩, by simp [intOf]; omega⟩
        · go_wp2_with fail
          exact ⟨⟨i + 1, by go_num, by omega, HB.out, HW.out⟩, by simp [intOf]; omega⟩
        · go_wp2_with fail
          exact ⟨⟨i + 1, by go_num, by omega, HB.out, HW.out⟩, by simp [intOf]; omega⟩
    · obtain rfl : i = l.length := by omega
      obtain ⟨B, hB, hBl, hBg⟩ := HB.out
      have HByt := hid hB
      have H2' : Hid (∀ W, Calls Try.prog 12 #[txt B] W fun e w' => e = .returned (.tuple #[.agg (spec (great l)).cs, .bool (known (great l))]) ∧ Hid (Below W.heap.size W w')) := fun W => by
        have := H2.out W B hBl hBg
        rwa [hBg] at this
      have HBk : Hid (∀ W, Byt W w.heap.size B → (convert 39 9 (.slice (some ⟨w.heap.size, 0, none⟩) l.length cap)).run Try.prog W = .ok (txt B) W) := fun W h => by
        have := back_any h cap
        rwa [hBl] at this
      have hlg := HByt.out.lt
      clear hB hBl hBg HB H2 H0 HW0 hconv
      generalize spec (great l) = s at *
      generalize known (great l) = E at *
      obtain ⟨nm, le, mo, fi, la, st, wrt⟩ := s
      go_wp2_with fail
      refine (H1.out _).mono ?_
      rintro _ W1 ⟨rfl, HW1⟩
      have hb2 := below_alloc W1 (.cells #[txt nm, .int .i64 le, .int .i64 mo, .int .i64 fi, .int .i64 la, .int .i64 st, .bool wrt] 25)
      have HB1 := hid (HW.out.trans (HW1.out.mono HW.out.size))
      have HB2 := hid (HB1.out.trans (hb2.mono HB1.out.size))
      have HS2 := hid (heap_alloc_new W1 (.cells #[txt nm, .int .i64 le, .int .i64 mo, .int .i64 fi, .int .i64 la, .int .i64 st, .bool wrt] 25))
      have hs1 : w.heap.size < W1.heap.size := by have := HW1.out.size; omega
      have hbk := HBk.out _ ((HByt.out.keep (HW1.out.block w.heap.size hlg)).keep (hb2.block w.heap.size hs1))
      clear hb2 H1 HW1 HBk HByt
      simp only [Sp.cs] at ⊢
      go_wp2_with fail
      refine (H2'.out _).mono ?_
      rintro _ W3 ⟨rfl, HW3⟩
      have HS3 := hid ((HW3.out.block W1.heap.size (by simp)).trans HS2.out)
      have HB3 := hid (HB2.out.trans (HW3.out.mono HB2.out.size))
      have hz3 : W1.heap.size < W3.heap.size := by have := HW3.out.size; simp at this; omega
      have hb4 := below_alloc W3 (.cells #[txt nm, .int .i64 le, .int .i64 mo, .int .i64 fi, .int .i64 la, .int .i64 st, .bool wrt] 25)
      have HB4 := hid (HB3.out.trans (hb4.mono HB3.out.size))
      have HS4 := hid (heap_alloc_new W3 (.cells #[txt nm, .int .i64 le, .int .i64 mo, .int .i64 fi, .int .i64 la, .int .i64 st, .bool wrt] 25))
      have HS34 := hid ((hb4.block W1.heap.size hz3).trans HS3.out)
      clear HW3 HS3 HS2 HB2 hb4 HB3 H2' hbk
      simp only [Sp.cs] at ⊢
      go_wp2_with fail
      refine (alive_any _).mono ?_
      rintro _ W5 ⟨rfl, HW5⟩
      have hS5 := (HW5.out.block W1.heap.size (by simp; omega)).trans HS34.out
      have hT5 := (HW5.out.block W3.heap.size (by simp)).trans HS4.out
      obtain ⟨x0, x1, x2, x3, x4, x5, x6⟩ := sp_cells hS5
      obtain ⟨y0, y1, y2, y3, y4, y5, y6⟩ := sp_cells hT5
      have HB5 := hid (HB4.out.trans (HW5.out.mono HB4.out.size))
      clear hS5 hT5 HW5 HS34 HS4 HB4
      go_wp2_with fail
      go_ret
      exact ⟨rfl, HB5.out⟩

end Go.Proofs.Ytndmhfhihajbdaa
