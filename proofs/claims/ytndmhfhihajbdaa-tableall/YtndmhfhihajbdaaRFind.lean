/- The document's Find. -/
import Derived.Test.YtndmhfhihajbdaaFind
namespace Go.Proofs.Ytndmhfhihajbdaa
open Go.RowKit

theorem place_found {g : Nm} {i : Nat} (h : i < allL.length) (hn : allL[i].nm = g) (hf : ∀ j (hj : j < i), allL[j].nm ≠ g) : spec g = allL[i] ∧ known g = true := by
  have : allL.findIdx? (fun s => s.nm == g) = some i := by
    rw [List.findIdx?_eq_some_iff_getElem]
    exact ⟨h, by simpa using hn, fun j hj => by simpa using hf j hj⟩
  have hp : place g = i + 1 := by unfold place; rw [this]
  refine ⟨?_, by unfold known; rw [hp]; simp⟩
  unfold spec
  rw [hp]
  simp [rowsL, h]
theorem place_none {g : Nm} (hf : ∀ j (hj : j < allL.length), allL[j].nm ≠ g) : spec g = zeroSp ∧ known g = false := by
  have : allL.findIdx? (fun s => s.nm == g) = none := by
    rw [List.findIdx?_eq_none_iff]
    intro s hs
    obtain ⟨j, hj, rfl⟩ := List.getElem_of_mem hs
    exact beq_eq_false_iff_ne.2 (hf j hj)
  have hp : place g = 0 := by unfold place; rw [this]
  refine ⟨?_, by unfold known; rw [hp]; simp⟩
  unfold spec
  rw [hp]
  rfl
theorem all_cell {w : World} {b : Nat} {t : TypeId} (h : w.heap[b]? = some (.cells allCells t (0, 0))) (i j : Nat) (hi : i < allL.length) (hj : j < 7) : w.cell? ⟨b, i * 7 + j, none⟩ = allL[i].cl[j]? := by
  rw [cell_of_row _ _ _ _ _ _ h, ← flat_get allL i j hi hj]
  simp [allCells]
theorem nm_len : ∀ s ∈ allL, s.nm.length ≤ 9 := by decide
theorem rall_at (w : World) : Calls Try.prog 10 #[] w fun e w' => ∃ b, e = .returned (.slice (some ⟨b, 0, none⟩) 47 47) ∧ Hid (w.heap.size ≤ b ∧ w'.heap[b]? = some (.cells allCells 25 (0, 0)) ∧ Below w.heap.size w w') := by
  refine (rall_any w).mono ?_
  rintro _ _ ⟨rfl, rfl⟩
  exact ⟨_, rfl, Nat.le_refl _, heap_alloc_new _ _, below_alloc _ _⟩
/-- the i-th name -/
def nmAt (i : Nat) : Nm := (allL[i]?.map Sp.nm).getD []
theorem nmAt_eq {i : Nat} (h : i < allL.length) : nmAt i = allL[i].nm := by simp [nmAt, h]
/-- what a round finds -/
theorem each (l : Nm) (hl : l.length ≤ 9223372036854775807) {w : World} {b : Nat} (hC : w.heap[b]? = some (.cells allCells 25 (0, 0))) (i : Nat) (hi : i < 47) :
    ∃ nm le mo fi la st wr, nmAt i = nm ∧ (∀ W, Calls Try.prog 22 #[txt nm, txt l] W fun e w' => e = .returned (.bool (nm == great l)) ∧ w' = W)
      ∧ (nm = great l → (∀ j, j < i → nmAt j ≠ great l) → spec (great l) = ⟨nm, le, mo, fi, la, st, wr⟩ ∧ known (great l) = true)
      ∧ w.cell? ⟨b, i * 7, none⟩ = some (txt nm) ∧ w.cell? ⟨b, i * 7 + 1, none⟩ = some (.int .i64 le) ∧ w.cell? ⟨b, i * 7 + 2, none⟩ = some (.int .i64 mo) ∧ w.cell? ⟨b, i * 7 + 3, none⟩ = some (.int .i64 fi)
      ∧ w.cell? ⟨b, i * 7 + 4, none⟩ = some (.int .i64 la) ∧ w.cell? ⟨b, i * 7 + 5, none⟩ = some (.int .i64 st) ∧ w.cell? ⟨b, i * 7 + 6, none⟩ = some (.bool wr) := by
  have hi' : i < allL.length := by rw [allL_len]; exact hi
  refine ⟨allL[i].nm, allL[i].le, allL[i].mo, allL[i].fi, allL[i].la, allL[i].st, allL[i].wr, nmAt_eq hi', fun W => ?_, fun h hf => place_found hi' h fun j hj => by rw [← nmAt_eq (by omega)]; exact hf j hj, ?_, ?_, ?_, ?_, ?_, ?_, ?_⟩
  · have hs := List.getElem_mem hi'
    have := alike_any allL[i].nm l W (Nat.le_trans (nm_len _ hs) (by decide)) hl
    rwa [great_names _ hs] at this
  · exact (all_cell hC i 0 hi' (by decide)).trans rfl
  · exact (all_cell hC i 1 hi' (by decide)).trans rfl
  · exact (all_cell hC i 2 hi' (by decide)).trans rfl
  · exact (all_cell hC i 3 hi' (by decide)).trans rfl
  · exact (all_cell hC i 4 hi' (by decide)).trans rfl
  · exact (all_cell hC i 5 hi' (by decide)).trans rfl
  · exact (all_cell hC i 6 hi' (by decide)).trans rfl
theorem none_of {g : Nm} (h : ∀ j, j < 47 → nmAt j ≠ g) : spec g = zeroSp ∧ known g = false :=
  place_none fun j hj => by rw [← nmAt_eq hj]; exact h j (by rw [allL_len] at hj; exact hj)
set_option maxHeartbeats 4000000 in
set_option maxRecDepth 100000 in
/-- the document's Find -/
theorem rfind_any (l : Nm) (w : World) (hl : l.length ≤ 9223372036854775807) : Calls Try.prog 13 #[txt l] w fun e w' => e = .returned (.tuple #[.agg (spec (great l)).cs, .bool (known (great l))]) ∧ Hid (Below w.heap.size w w') := by
  have HE : Hid (∀ (w : World) (b : Nat), w.heap[b]? = some (.cells allCells 25 (0, 0)) → _) := fun w b hC => each l hl (w := w) (b := b) hC
  have HN := hid (@none_of (great l))
  generalize great l = g at *
  generalize spec g = s at *
  generalize known g = kn at *
  generalize nmAt = nmA at *
  go_enter Try.func13, Try.ntmps13
  go_wp2_with fail
  refine (rall_at _).mono ?_
  rintro _ W1 ⟨b, rfl, HR1⟩
  have H0 : Hid (W1.heap[w.heap.size]? = some (.cells zeroSp.cs 25 (0, 0))) := (HR1.out.2.2.block w.heap.size (by simp)).trans (heap_alloc_new _ _)
  have HB1 : Hid (Below w.heap.size w W1) := (below_alloc _ _).trans (HR1.out.2.2.mono (by simp))
  have HC := hid (HE.out W1 b HR1.out.2.1)
  clear HR1 HE
  have HRS : Hid (∀ s : Sp, (W1.setRow w.heap.size s.cs).heap[w.heap.size]? = some (.cells s.cs 25 (0, 0)) ∧ Below w.heap.size w (W1.setRow w.heap.size s.cs)) := fun s => ⟨setRow_heap W1 w.heap.size _ s.cs _ _ H0.out, below_setRow HB1.out (Nat.le_refl _) s.cs⟩
  go_wp2_with fail
  go_loopw [5] (fun v5 W => ∃ i : Nat, v5 = .int .i64 i ∧ i ≤ 47 ∧ Hid (∀ j, j < i → nmA j ≠ g) ∧ W = W1) (fun v5 _ => 47 - (intOf v5).toNat)
  case atStart => exact ⟨0, rfl, by decide, fun j hj => absurd hj (by omega), rfl⟩
  case round =>
    obtain ⟨i, rfl, hi, HI, rfl⟩ := hrel
    by_cases hlt : i < 47
    · have hiz : (i : Int) < 47 := by omega
      obtain ⟨nm, le, mo, fi, la, st, wr', hnm, hA, hF, x0, x1, x2, x3, x4, x5, x6⟩ := HC.out i hlt
      have HA := hid hA
      clear hA HC HN
      by_cases hg : nm = g
      · obtain ⟨rfl, rfl⟩ := hF hg HI.out
        have hbq : (nm == g) = true := beq_iff_eq.2 hg
        obtain ⟨hr, hb⟩ := HRS.out ⟨nm, le, mo, fi, la, st, wr'⟩
        have HR := hid hr
        have HB := hid hb
        clear hF hg hnm HI HRS hr hb
        go_wp2_with first | (go_at_call 22; refine (HA.out _).mono ?_; rintro _ _ ⟨rfl, rfl⟩) | (refine Go.wpList_store_rowTo rfl 25 _ _ rfl rfl w.heap.size (Sp.cs ⟨nm, le, mo, fi, la, st, wr'⟩) rfl rfl 25 zeroSp.cs H0.out (info_sp _) rfl (ones_sp _) (Hid.out ?_))
        refine hid ?_
        go_wp2_with fail
        exact bodyPost_ret (v := .tuple #[.agg (Sp.cs ⟨nm, le, mo, fi, la, st, wr'⟩), .bool true]) (ret_sp2 rfl rfl rfl HR.out) rfl ⟨rfl, HB.out⟩
      · have hbq : (nm == g) = false := beq_eq_false_iff_ne.2 hg
        have HI3 : Hid (∀ j, j < i + 1 → nmA j ≠ g) := fun j hj => by
          rcases Nat.lt_succ_iff_lt_or_eq.1 hj with h | rfl
          · exact HI.out j h
          · rw [hnm]; exact hg
        clear hF hg hnm HI HRS
        go_wp2_with (go_at_call 22; refine (HA.out _).mono ?_; rintro _ _ ⟨rfl, rfl⟩)
        exact ⟨⟨i + 1, by go_num, by omega, HI3.out, trivial⟩, by simp [intOf]; omega⟩
    · obtain ⟨rfl, rfl⟩ := HN.out (fun j hj => HI.out j (by omega))
      obtain ⟨hr, hb⟩ := HRS.out zeroSp
      have HR := hid hr
      have HB := hid hb
      clear hr hb HRS HC HN HI
      have hiz : ¬ (i : Int) < 47 := by omega
      go_wp2_with (refine Go.wpList_store_rowTo rfl 25 _ _ rfl rfl w.heap.size zeroSp.cs rfl rfl 25 zeroSp.cs H0.out (info_sp _) rfl (ones_sp _) (Hid.out ?_))
      refine hid ?_
      go_wp2_with fail
      exact bodyPost_ret (v := .tuple #[.agg zeroSp.cs, .bool false]) (ret_sp2 rfl rfl rfl HR.out) rfl ⟨rfl, HB.out⟩

end Go.Proofs.Ytndmhfhihajbdaa
