/- TableAll over the contracts. -/
import Derived.Test.YtndmhfhihajbdaaAlive
import Derived.Deep.DeepCutAuto
namespace Go.Proofs.Ytndmhfhihajbdaa
open Go.RowKit

theorem nodup_names : (allL.map Sp.nm).Nodup := by decide +kernel
theorem names_ne {i j : Nat} (hij : i < j) (hj : j < 47) : nmAt i ≠ nmAt j := by
  have hj' : j < allL.length := by rw [allL_len]; exact hj
  have hi' : i < allL.length := by omega
  rw [nmAt_eq hi', nmAt_eq hj']
  have := List.pairwise_iff_getElem.1 nodup_names i j (by simpa using hi') (by simpa using hj') hij
  simpa using this
def clAt (i j : Nat) : Option Value := ((allL[i]?.map Sp.cl).getD [])[j]?
theorem clAt_eq {i : Nat} (h : i < allL.length) (j : Nat) : clAt i j = allL[i].cl[j]? := by simp [clAt, h]
/-- where commands of the call's own lie -/
theorem own_at {B : Nat} {w : World} {q : Option Addr} {n d : Nat} (h : OwnS B w (.slice q n d) allL) : ∃ g, q = some ⟨g, 0, none⟩ ∧ B ≤ g ∧ g < w.heap.size ∧ (∀ k, w.frozen? ⟨g, k, none⟩ = false) ∧ ∀ i j, i < 47 → j < 7 → w.cell? ⟨g, i * 7 + j, none⟩ = clAt i j := by
  have h' := h
  rcases h.2 with ⟨_, h0⟩ | ⟨g, cap, cur, h1, h2, h3, _⟩
  · rw [allL_len] at h0; cases h0
  · injection h1 with h1
    refine ⟨g, h1, h2, (Array.getElem?_eq_some_iff.1 h3).1, fun k => frozen_of_row _ _ _ _ _ h3, fun i j hi hj => ?_⟩
    have hi' : i < allL.length := by rw [allL_len]; exact hi
    have hf := flat_get allL i j hi' hj
    rw [clAt_eq hi']
    have hj' : j < allL[i].cl.length := by simpa [Sp.cl] using hj
    have := World.ownsRow.cells h' (g := g) (by rw [h1]; rfl) (i * 7 + j) (allL[i].cl[j]) (by rw [hf, List.getElem?_eq_getElem hj'])
    rw [Go.WideShapes.add_plain, Nat.zero_add] at this
    rw [this]
    simp [hj']
/-- what a round finds -/
theorem each2 {w : World} {g b : Nat} (hG : ∀ i j, i < 47 → j < 7 → w.cell? ⟨g, i * 7 + j, none⟩ = clAt i j) (hC : w.heap[b]? = some (.cells allCells 25 (0, 0))) (i : Nat) (hi : i < 47) :
    ∃ nm le mo fi la st wr, nmAt i = nm
      ∧ (w.cell? ⟨g, i * 7, none⟩ = some (txt nm) ∧ w.cell? ⟨g, i * 7 + 1, none⟩ = some (.int .i64 le) ∧ w.cell? ⟨g, i * 7 + 2, none⟩ = some (.int .i64 mo) ∧ w.cell? ⟨g, i * 7 + 3, none⟩ = some (.int .i64 fi)
      ∧ w.cell? ⟨g, i * 7 + 4, none⟩ = some (.int .i64 la) ∧ w.cell? ⟨g, i * 7 + 5, none⟩ = some (.int .i64 st) ∧ w.cell? ⟨g, i * 7 + 6, none⟩ = some (.bool wr))
      ∧ w.cell? ⟨b, i * 7, none⟩ = some (txt nm) ∧ w.cell? ⟨b, i * 7 + 1, none⟩ = some (.int .i64 le) ∧ w.cell? ⟨b, i * 7 + 2, none⟩ = some (.int .i64 mo) ∧ w.cell? ⟨b, i * 7 + 3, none⟩ = some (.int .i64 fi)
      ∧ w.cell? ⟨b, i * 7 + 4, none⟩ = some (.int .i64 la) ∧ w.cell? ⟨b, i * 7 + 5, none⟩ = some (.int .i64 st) ∧ w.cell? ⟨b, i * 7 + 6, none⟩ = some (.bool wr) := by
  have hi' : i < allL.length := by rw [allL_len]; exact hi
  have hG' : ∀ j, j < 7 → w.cell? ⟨g, i * 7 + j, none⟩ = allL[i].cl[j]? := fun j hj => by
    rw [hG i j hi hj, clAt_eq hi']
  refine ⟨allL[i].nm, allL[i].le, allL[i].mo, allL[i].fi, allL[i].la, allL[i].st, allL[i].wr, nmAt_eq hi', ⟨?_, ?_, ?_, ?_, ?_, ?_, ?_⟩, ?_, ?_, ?_, ?_, ?_, ?_, ?_⟩
  · exact (hG' 0 (by decide)).trans rfl
  · exact (hG' 1 (by decide)).trans rfl
  · exact (hG' 2 (by decide)).trans rfl
  · exact (hG' 3 (by decide)).trans rfl
  · exact (hG' 4 (by decide)).trans rfl
  · exact (hG' 5 (by decide)).trans rfl
  · exact (hG' 6 (by decide)).trans rfl
  · exact (all_cell hC i 0 hi' (by decide)).trans rfl
  · exact (all_cell hC i 1 hi' (by decide)).trans rfl
  · exact (all_cell hC i 2 hi' (by decide)).trans rfl
  · exact (all_cell hC i 3 hi' (by decide)).trans rfl
  · exact (all_cell hC i 4 hi' (by decide)).trans rfl
  · exact (all_cell hC i 5 hi' (by decide)).trans rfl
  · exact (all_cell hC i 6 hi' (by decide)).trans rfl
theorem cell_turn' {w w' : World} {b k : Nat} (he : w'.heap[b]? = w.heap[b]?) : w'.cell? ⟨b, k, none⟩ = w.cell? ⟨b, k, none⟩ := World.cell?_of_block (w := w) he
set_option maxHeartbeats 16000000 in
set_option maxRecDepth 100000 in
/-- behind the write into the first row -/
theorem tall_any (i : Int) (nm0 : Nm) (w : World) (hi1 : -9223372036854775808 ≤ i) (hi2 : i ≤ 9223372036854775807) (_hl : nm0.length ≤ 9223372036854775807) :
    Calls Try.prog 3 #[.int .i64 i, txt nm0] w fun e w' => e = .returned (.bool true) ∧ Below w.heap.size w w' := by
  have HNe : Hid (∀ i j : Nat, i < j → j < 47 → nmAt i ≠ nmAt j) := fun i j h k => names_ne h k
  have HOw : Hid (∀ (B : Nat) (w : World) (q : Option Addr) (n d : Nat), OwnS B w (.slice q n d) allL → _) := fun B w q n d h => own_at h
  have HE : Hid (∀ (w : World) (g b : Nat), _ → w.heap[b]? = some (.cells allCells 25 (0, 0)) → _) := fun w g b h k => each2 (w := w) (g := g) (b := b) h k
  have HAll : Hid (∀ w, _) := fun w => all_any w
  generalize nmAt = nmA at *
  have HCl : Hid (∀ i, i < 47 → ∃ v, clAt i 0 = some v) := fun i hi => ⟨_, (clAt_eq (by rw [allL_len]; exact hi) 0).trans rfl⟩
  generalize clAt = cA at *
  generalize allL = AL at *
  go_enter Try.func3, Try.ntmps3
  go_wp2_with fail
  refine (HAll.out _).mono ?_
  rintro _ W1 ⟨q1, d1, rfl, HW1⟩
  obtain ⟨g1, rfl, hg1, hg2, hfz, hcl⟩ := HOw.out _ _ _ _ _ HW1.out.1
  have HB1 := hid HW1.out.2
  have Hfz := hid hfz
  have Hcl := hid hcl
  clear hfz hcl HW1
  by_cases h0 : i < 0
  · have HX := HB1
    clear HB1 Hfz Hcl HCl
    go_wp2_with fail
    refine (HAll.out _).mono ?_
    rintro _ W3 ⟨q3, d3, rfl, HW3⟩
    have HB3 := hid (HX.out.trans (HW3.out.2.mono HX.out.size))
    obtain ⟨g3, rfl, hg3, hg4, -, hcl3⟩ := HOw.out _ _ _ _ _ HW3.out.1
    have Hcl3 := hid hcl3
    clear hcl3 HW3 HAll HOw
    go_wp2_with fail
    refine (rall_at _).mono ?_
    rintro _ W4 ⟨b, rfl, HR4⟩
    have HB4 := hid (HB3.out.trans (HR4.out.2.2.mono HB3.out.size))
    have HE4 := hid (HE.out W4 g3 b (fun i j hi hj => (cell_turn' (HR4.out.2.2.block g3 hg4)).trans (Hcl3.out i j hi hj)) HR4.out.2.1)
    have hb4 : b < W4.heap.size := (Array.getElem?_eq_some_iff.1 HR4.out.2.1).1
    have hg5 : g3 < W4.heap.size := Nat.lt_of_lt_of_le hg4 HR4.out.2.2.size
    clear HR4 Hcl3 HE HB3
    go_wp2_with fail
    go_loopw [32] (fun v32 W => ∃ k : Nat, v32 = .int .i64 k ∧ k ≤ 47 ∧ Hid (Below W4.heap.size W4 W)) (fun v32 _ => 47 - (intOf v32).toNat)
    case atStart => exact ⟨0, rfl, by decide, Below.refl _ _⟩
    case round =>
      obtain ⟨k, rfl, hk, HW⟩ := hrel
      by_cases hlt : k < 47
      · have hkz : (k : Int) < 47 := by omega
        obtain ⟨nm, le, mo, fi, la, st, wrt, hnm, ⟨x0, x1, x2, x3, x4, x5, x6⟩, y0, y1, y2, y3, y4, y5, y6⟩ := HE4.out k hlt
        have hG := HW.out.block g3 hg5
        have hC := HW.out.block b hb4
        replace x0 := cell_turn x0 hG
        replace x1 := cell_turn x1 hG
        replace x2 := cell_turn x2 hG
        replace x3 := cell_turn x3 hG
        replace x4 := cell_turn x4 hG
        replace x5 := cell_turn x5 hG
        replace x6 := cell_turn x6 hG
        replace y0 := cell_turn y0 hC
        replace y1 := cell_turn y1 hC
        replace y2 := cell_turn y2 hC
        replace y3 := cell_turn y3 hC
        replace y4 := cell_turn y4 hC
        replace y5 := cell_turn y5 hC
        replace y6 := cell_turn y6 hC
        have HX0 := hid x0
        have HNk : Hid (∀ m, m < k → ∃ nm', W4.cell? ⟨g3, m * 7, none⟩ = some (txt nm') ∧ nm' ≠ nm) := fun m hm => by
          obtain ⟨nm', _, _, _, _, _, _, hnm', ⟨z0, _⟩, _⟩ := HE4.out m (by omega)
          exact ⟨nm', z0, by rw [← hnm, ← hnm']; exact HNe.out m k hm hlt⟩
        have HX4 : Hid (W4.cell? ⟨g3, k * 7, none⟩ = some (txt nm)) := by
          obtain ⟨nm', _, _, _, _, _, _, hnm', ⟨z0, _⟩, _⟩ := HE4.out k hlt
          rw [← hnm, hnm']; exact z0
        clear hG hC hnm
        go_wp2_with fail
        go_quiet (fail)
        go_wp2_with fail
        clear x0 x1 x2 x3 x4 x5 x6 y0 y1 y2 y3 y4 y5 y6 HX0
        go_loopw [45] (fun v45 W => ∃ m : Nat, v45 = .int .i64 m ∧ m ≤ k ∧ Hid (Below W4.heap.size W4 W)) (fun v45 _ => k - (intOf v45).toNat)
        case atStart => exact ⟨0, rfl, Nat.zero_le _, by first | exact HW.out | exact HW.out.drew | exact below_redrawn HW.out _⟩
        case round =>
          obtain ⟨m, rfl, hm, HV⟩ := hrel
          by_cases hmk : m < k
          · have hmz : (m : Int) < (k : Int) := by omega
            have hmz2 : (m : Int) < 47 := by omega
            obtain ⟨nm', z0, hne⟩ := HNk.out m hmk
            replace z0 := cell_turn z0 (HV.out.block g3 hg5)
            have z1 := cell_turn HX4.out (HV.out.block g3 hg5)
            have hbe : (nm' == nm) = false := beq_eq_false_iff_ne.2 hne
            clear hne
            go_wp2_with fail
            go_quiet (fail)
            go_wp2_with fail
            exact ⟨⟨m + 1, by go_num, by omega, by first | exact HV.out | exact HV.out.drew | exact below_redrawn HV.out _⟩, by simp [intOf]; omega⟩
          · have hmz : ¬ (m : Int) < (k : Int) := by omega
            go_wp2_with fail
            exact ⟨⟨k + 1, by go_num, by omega, HV.out⟩, by simp [intOf]; omega⟩
      · have hkz : ¬ (k : Int) < 47 := by omega
        have HB5 := hid (HB4.out.trans (HW.out.mono HB4.out.size))
        clear HE4 HNe HB4 HW
        go_wp2_with fail
        refine (alive_any _).mono ?_
        rintro _ W6 ⟨rfl, HW6⟩
        have HB6 := hid (HB5.out.trans (HW6.out.mono HB5.out.size))
        go_wp2_with fail
        go_ret
        exact ⟨rfl, HB6.out⟩

  by_cases h9 : 47 ≤ i
  · have HX := HB1
    clear HB1 Hfz Hcl HCl
    go_wp2_with fail
    refine (HAll.out _).mono ?_
    rintro _ W3 ⟨q3, d3, rfl, HW3⟩
    have HB3 := hid (HX.out.trans (HW3.out.2.mono HX.out.size))
    obtain ⟨g3, rfl, hg3, hg4, -, hcl3⟩ := HOw.out _ _ _ _ _ HW3.out.1
    have Hcl3 := hid hcl3
    clear hcl3 HW3 HAll HOw
    go_wp2_with fail
    refine (rall_at _).mono ?_
    rintro _ W4 ⟨b, rfl, HR4⟩
    have HB4 := hid (HB3.out.trans (HR4.out.2.2.mono HB3.out.size))
    have HE4 := hid (HE.out W4 g3 b (fun i j hi hj => (cell_turn' (HR4.out.2.2.block g3 hg4)).trans (Hcl3.out i j hi hj)) HR4.out.2.1)
    have hb4 : b < W4.heap.size := (Array.getElem?_eq_some_iff.1 HR4.out.2.1).1
    have hg5 : g3 < W4.heap.size := Nat.lt_of_lt_of_le hg4 HR4.out.2.2.size
    clear HR4 Hcl3 HE HB3
    go_wp2_with fail
    go_loopw [32] (fun v32 W => ∃ k : Nat, v32 = .int .i64 k ∧ k ≤ 47 ∧ Hid (Below W4.heap.size W4 W)) (fun v32 _ => 47 - (intOf v32).toNat)
    case atStart => exact ⟨0, rfl, by decide, Below.refl _ _⟩
    case round =>
      obtain ⟨k, rfl, hk, HW⟩ := hrel
      by_cases hlt : k < 47
      · have hkz : (k : Int) < 47 := by omega
        obtain ⟨nm, le, mo, fi, la, st, wrt, hnm, ⟨x0, x1, x2, x3, x4, x5, x6⟩, y0, y1, y2, y3, y4, y5, y6⟩ := HE4.out k hlt
        have hG := HW.out.block g3 hg5
        have hC := HW.out.block b hb4
        replace x0 := cell_turn x0 hG
        replace x1 := cell_turn x1 hG
        replace x2 := cell_turn x2 hG
        replace x3 := cell_turn x3 hG
        replace x4 := cell_turn x4 hG
        replace x5 := cell_turn x5 hG
        replace x6 := cell_turn x6 hG
        replace y0 := cell_turn y0 hC
        replace y1 := cell_turn y1 hC
        replace y2 := cell_turn y2 hC
        replace y3 := cell_turn y3 hC
        replace y4 := cell_turn y4 hC
        replace y5 := cell_turn y5 hC
        replace y6 := cell_turn y6 hC
        have HX0 := hid x0
        have HNk : Hid (∀ m, m < k → ∃ nm', W4.cell? ⟨g3, m * 7, none⟩ = some (txt nm') ∧ nm' ≠ nm) := fun m hm => by
          obtain ⟨nm', _, _, _, _, _, _, hnm', ⟨z0, _⟩, _⟩ := HE4.out m (by omega)
          exact ⟨nm', z0, by rw [← hnm, ← hnm']; exact HNe.out m k hm hlt⟩
        have HX4 : Hid (W4.cell? ⟨g3, k * 7, none⟩ = some (txt nm)) := by
          obtain ⟨nm', _, _, _, _, _, _, hnm', ⟨z0, _⟩, _⟩ := HE4.out k hlt
          rw [← hnm, hnm']; exact z0
        clear hG hC hnm
        go_wp2_with fail
        go_quiet (fail)
        go_wp2_with fail
        clear x0 x1 x2 x3 x4 x5 x6 y0 y1 y2 y3 y4 y5 y6 HX0
        go_loopw [45] (fun v45 W => ∃ m : Nat, v45 = .int .i64 m ∧ m ≤ k ∧ Hid (Below W4.heap.size W4 W)) (fun v45 _ => k - (intOf v45).toNat)
        case atStart => exact ⟨0, rfl, Nat.zero_le _, by first | exact HW.out | exact HW.out.drew | exact below_redrawn HW.out _⟩
        case round =>
          obtain ⟨m, rfl, hm, HV⟩ := hrel
          by_cases hmk : m < k
          · have hmz : (m : Int) < (k : Int) := by omega
            have hmz2 : (m : Int) < 47 := by omega
            obtain ⟨nm', z0, hne⟩ := HNk.out m hmk
            replace z0 := cell_turn z0 (HV.out.block g3 hg5)
            have z1 := cell_turn HX4.out (HV.out.block g3 hg5)
            have hbe : (nm' == nm) = false := beq_eq_false_iff_ne.2 hne
            clear hne
            go_wp2_with fail
            go_quiet (fail)
            go_wp2_with fail
            exact ⟨⟨m + 1, by go_num, by omega, by first | exact HV.out | exact HV.out.drew | exact below_redrawn HV.out _⟩, by simp [intOf]; omega⟩
          · have hmz : ¬ (m : Int) < (k : Int) := by omega
            go_wp2_with fail
            exact ⟨⟨k + 1, by go_num, by omega, HV.out⟩, by simp [intOf]; omega⟩
      · have hkz : ¬ (k : Int) < 47 := by omega
        have HB5 := hid (HB4.out.trans (HW.out.mono HB4.out.size))
        clear HE4 HNe HB4 HW
        go_wp2_with fail
        refine (alive_any _).mono ?_
        rintro _ W6 ⟨rfl, HW6⟩
        have HB6 := hid (HB5.out.trans (HW6.out.mono HB5.out.size))
        go_wp2_with fail
        go_ret
        exact ⟨rfl, HB6.out⟩

  obtain ⟨k0, rfl⟩ : ∃ k : Nat, i = (k : Int) := ⟨i.toNat, by omega⟩
  have hk0 : k0 < 47 := by omega
  have hkz0 : (k0 : Int) < 47 := by omega
  obtain ⟨v0, hv0⟩ := HCl.out k0 hk0
  have xx0 := (Hcl.out k0 0 hk0 (by decide)).trans hv0
  rw [Nat.add_zero] at xx0
  have hff := Hfz.out (k0 * 7)
  have HX := hid (HB1.out.setCell (p := ⟨g1, k0 * 7, none⟩) hg1 (txt nm0))
  clear h0 h9 hv0
  clear HB1 Hfz Hcl HCl
  go_wp2_with fail
  refine (HAll.out _).mono ?_
  rintro _ W3 ⟨q3, d3, rfl, HW3⟩
  have HB3 := hid (HX.out.trans (HW3.out.2.mono HX.out.size))
  obtain ⟨g3, rfl, hg3, hg4, -, hcl3⟩ := HOw.out _ _ _ _ _ HW3.out.1
  have Hcl3 := hid hcl3
  clear hcl3 HW3 HAll HOw
  go_wp2_with fail
  refine (rall_at _).mono ?_
  rintro _ W4 ⟨b, rfl, HR4⟩
  have HB4 := hid (HB3.out.trans (HR4.out.2.2.mono HB3.out.size))
  have HE4 := hid (HE.out W4 g3 b (fun i j hi hj => (cell_turn' (HR4.out.2.2.block g3 hg4)).trans (Hcl3.out i j hi hj)) HR4.out.2.1)
  have hb4 : b < W4.heap.size := (Array.getElem?_eq_some_iff.1 HR4.out.2.1).1
  have hg5 : g3 < W4.heap.size := Nat.lt_of_lt_of_le hg4 HR4.out.2.2.size
  clear HR4 Hcl3 HE HB3
  go_wp2_with fail
  go_loopw [32] (fun v32 W => ∃ k : Nat, v32 = .int .i64 k ∧ k ≤ 47 ∧ Hid (Below W4.heap.size W4 W)) (fun v32 _ => 47 - (intOf v32).toNat)
  case atStart => exact ⟨0, rfl, by decide, Below.refl _ _⟩
  case round =>
    obtain ⟨k, rfl, hk, HW⟩ := hrel
    by_cases hlt : k < 47
    · have hkz : (k : Int) < 47 := by omega
      obtain ⟨nm, le, mo, fi, la, st, wrt, hnm, ⟨x0, x1, x2, x3, x4, x5, x6⟩, y0, y1, y2, y3, y4, y5, y6⟩ := HE4.out k hlt
      have hG := HW.out.block g3 hg5
      have hC := HW.out.block b hb4
      replace x0 := cell_turn x0 hG
      replace x1 := cell_turn x1 hG
      replace x2 := cell_turn x2 hG
      replace x3 := cell_turn x3 hG
      replace x4 := cell_turn x4 hG
      replace x5 := cell_turn x5 hG
      replace x6 := cell_turn x6 hG
      replace y0 := cell_turn y0 hC
      replace y1 := cell_turn y1 hC
      replace y2 := cell_turn y2 hC
      replace y3 := cell_turn y3 hC
      replace y4 := cell_turn y4 hC
      replace y5 := cell_turn y5 hC
      replace y6 := cell_turn y6 hC
      have HX0 := hid x0
      have HNk : Hid (∀ m, m < k → ∃ nm', W4.cell? ⟨g3, m * 7, none⟩ = some (txt nm') ∧ nm' ≠ nm) := fun m hm => by
        obtain ⟨nm', _, _, _, _, _, _, hnm', ⟨z0, _⟩, _⟩ := HE4.out m (by omega)
        exact ⟨nm', z0, by rw [← hnm, ← hnm']; exact HNe.out m k hm hlt⟩
      have HX4 : Hid (W4.cell? ⟨g3, k * 7, none⟩ = some (txt nm)) := by
        obtain ⟨nm', _, _, _, _, _, _, hnm', ⟨z0, _⟩, _⟩ := HE4.out k hlt
        rw [← hnm, hnm']; exact z0
      clear hG hC hnm
      go_wp2_with fail
      go_quiet (fail)
      go_wp2_with fail
      clear x0 x1 x2 x3 x4 x5 x6 y0 y1 y2 y3 y4 y5 y6 HX0
      go_loopw [45] (fun v45 W => ∃ m : Nat, v45 = .int .i64 m ∧ m ≤ k ∧ Hid (Below W4.heap.size W4 W)) (fun v45 _ => k - (intOf v45).toNat)
      case atStart => exact ⟨0, rfl, Nat.zero_le _, by first | exact HW.out | exact HW.out.drew | exact below_redrawn HW.out _⟩
      case round =>
        obtain ⟨m, rfl, hm, HV⟩ := hrel
        by_cases hmk : m < k
        · have hmz : (m : Int) < (k : Int) := by omega
          have hmz2 : (m : Int) < 47 := by omega
          obtain ⟨nm', z0, hne⟩ := HNk.out m hmk
          replace z0 := cell_turn z0 (HV.out.block g3 hg5)
          have z1 := cell_turn HX4.out (HV.out.block g3 hg5)
          have hbe : (nm' == nm) = false := beq_eq_false_iff_ne.2 hne
          clear hne
          go_wp2_with fail
          go_quiet (fail)
          go_wp2_with fail
          exact ⟨⟨m + 1, by go_num, by omega, by first | exact HV.out | exact HV.out.drew | exact below_redrawn HV.out _⟩, by simp [intOf]; omega⟩
        · have hmz : ¬ (m : Int) < (k : Int) := by omega
          go_wp2_with fail
          exact ⟨⟨k + 1, by go_num, by omega, HV.out⟩, by simp [intOf]; omega⟩
    · have hkz : ¬ (k : Int) < 47 := by omega
      have HB5 := hid (HB4.out.trans (HW.out.mono HB4.out.size))
      clear HE4 HNe HB4 HW
      go_wp2_with fail
      refine (alive_any _).mono ?_
      rintro _ W6 ⟨rfl, HW6⟩
      have HB6 := hid (HB5.out.trans (HW6.out.mono HB5.out.size))
      go_wp2_with fail
      go_ret
      exact ⟨rfl, HB6.out⟩

end Go.Proofs.Ytndmhfhihajbdaa
