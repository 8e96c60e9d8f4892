/- The program's Right. -/
import Derived.Test.YtmjmdfenkhmfbabDoorPEq
namespace Go.Proofs.YtmjmdfenkhmfbabDoor
open Go.RowKit

theorem pmany_any (n : Int) (w : World) : Calls Tryd.prog 34 #[.int .i64 n] w fun e w' => e = .returned (.bool (decide (1 ≤ n ∧ n ≤ 256))) ∧ w' = w := by
  by_cases h1 : 1 ≤ n
  · by_cases h2 : n ≤ 256
    · rw [decide_eq_true ⟨h1, h2⟩]
      go_enter Tryd.func34, Tryd.ntmps34
      go_wp2_with fail
      go_ret
      exact ⟨rfl, rfl⟩
    · rw [decide_eq_false (fun h => h2 h.2)]
      go_enter Tryd.func34, Tryd.ntmps34
      go_wp2_with fail
      go_ret
      exact ⟨rfl, rfl⟩
  · rw [decide_eq_false (fun h => h1 h.1)]
    go_enter Tryd.func34, Tryd.ntmps34
    go_wp2_with fail
    go_ret
    exact ⟨rfl, rfl⟩
theorem ppart_any (n : Int) (w : World) : Calls Tryd.prog 35 #[.int .i64 n] w fun e w' => e = .returned (.bool (decide (-1048576 ≤ n ∧ n ≤ 1048576))) ∧ w' = w := by
  by_cases h1 : -1048576 ≤ n
  · by_cases h2 : n ≤ 1048576
    · rw [decide_eq_true ⟨h1, h2⟩]
      go_enter Tryd.func35, Tryd.ntmps35
      go_wp2_with fail
      go_ret
      exact ⟨rfl, rfl⟩
    · rw [decide_eq_false (fun h => h2 h.2)]
      go_enter Tryd.func35, Tryd.ntmps35
      go_wp2_with fail
      go_ret
      exact ⟨rfl, rfl⟩
  · rw [decide_eq_false (fun h => h1 h.1)]
    go_enter Tryd.func35, Tryd.ntmps35
    go_wp2_with fail
    go_ret
    exact ⟨rfl, rfl⟩
/-- point.Right -/
theorem ptright_any (x y : Int) (w : World) : Calls Tryd.prog 30 #[pv x y] w fun e w' => e = .returned (.bool (rtB x y)) ∧ Hid (Below w.heap.size w w') := by
  have e : rtB x y = (decide (-1048576 ≤ x ∧ x ≤ 1048576) && decide (-1048576 ≤ y ∧ y ≤ 1048576)) := by
    rw [Bool.eq_iff_iff, rtB_iff, Bool.and_eq_true, decide_eq_true_iff, decide_eq_true_iff]; unfold rtP; omega
  rw [e]
  have H1 := hid (ppart_any x)
  have H2 := hid (ppart_any y)
  generalize decide (-1048576 ≤ x ∧ x ≤ 1048576) = X at *
  generalize decide (-1048576 ≤ y ∧ y ≤ 1048576) = Y at *
  have HB := hid (below_alloc w (pc x y))
  have HX := hid (heap_alloc_new w (pc x y))
  obtain ⟨c0, c1⟩ := pt_cells HX.out
  cases X with
  | false =>
    go_enter Tryd.func30, Tryd.ntmps30
    go_wp2_with fail
    refine (H1.out _).mono ?_; rintro e w' ⟨rfl, rfl⟩
    go_wp2_with fail
    go_ret
    exact ⟨rfl, HB.out⟩
  | true =>
    go_enter Tryd.func30, Tryd.ntmps30
    go_wp2_with fail
    refine (H1.out _).mono ?_; rintro e w' ⟨rfl, rfl⟩
    go_wp2_with fail
    refine (H2.out _).mono ?_; rintro e w' ⟨rfl, rfl⟩
    go_wp2_with fail
    go_ret
    exact ⟨rfl, HB.out⟩
set_option maxHeartbeats 2000000 in
set_option maxRecDepth 100000 in
/-- sets.Right -/
theorem seright_any (p : Option Addr) (c : Nat) (l : Row) (w : World) (h : Strs w p l) (hl : l.length ≤ 140737488351232) :
    Calls Tryd.prog 28 #[.slice p l.length c] w fun e w' => e = .returned (.bool (risB l)) ∧ Hid (Below w.heap.size w w') := by
  have H := hid h
  have hlz : (l.length : Int) ≤ 140737488351232 := by omega
  obtain ⟨V, hV⟩ : ∃ V, V = risB l := ⟨_, rfl⟩
  rw [← hV]
  have HV := hid hV
  clear h hV
  go_enter Tryd.func28, Tryd.ntmps28
  go_wp2_with fail
  go_loopw [3] (fun v3 W => ∃ k : Nat, v3 = .int .i64 k ∧ 1 ≤ k ∧ k ≤ l.length + 1 ∧ Hid (Ris (l.take k)) ∧ Hid (Below w.heap.size w W)) (fun v3 _ => l.length - (intOf v3).toNat)
  case atStart => exact ⟨1, rfl, by decide, by omega, by
    cases l with
    | nil => exact Ris.nil
    | cons x r => exact List.pairwise_singleton _ _, Below.refl _ _⟩
  case round =>
    obtain ⟨k, rfl, hk1, hk, HK, HW⟩ := hrel
    by_cases hlt : k < l.length
    · obtain ⟨i, rfl⟩ : ∃ i, k = i + 1 := ⟨k - 1, by omega⟩
      have hkz : ((i + 1 : Nat) : Int) < (l.length : Int) := by omega
      obtain ⟨b, o, rfl, hc⟩ := H.out (fun e => by rw [e] at hlt; simp at hlt)
      have hbl : b < w.heap.size := block_lt_of_cell (hc (i + 1) hlt)
      have x0 := cell_turn (hc i (by omega)) (HW.out.block b hbl)
      have x1 := cell_turn (hc (i + 1) hlt) (HW.out.block b hbl)
      have hsub : ((i + 1 : Nat) : Int) - 1 = (i : Int) := by omega
      by_cases e : l[i] < l[i + 1]
      · have HK2 := hid (ris_take hlt HK.out e)
        have hbl2 : Op.bytesLess l[i] l[i + 1] = true := by rw [bytesLess_eq]; exact decide_eq_true e
        generalize l[i] = t at *
        generalize l[i + 1] = u at *
        clear hc e
        go_wp2_with fail
        go_quiet (fail)
        go_wp2_with fail
        exact ⟨⟨i + 1 + 1, by go_num, by omega, by omega, HK2.out, by first | exact HW.out | exact HW.out.drew | exact below_redrawn HW.out _⟩, by simp [intOf]; omega⟩
      · have HN : Hid (V = false) := HV.out.trans (risB_no fun h => e (ris_at h (Nat.lt_succ_self i) hlt))
        have hbl2 : Op.bytesLess l[i] l[i + 1] = false := by rw [bytesLess_eq]; exact decide_eq_false e
        obtain rfl := HN.out
        generalize l[i] = t at *
        generalize l[i + 1] = u at *
        clear hc e
        go_wp2_with fail
        go_quiet (fail)
        go_wp2_with fail
        go_ret
        exact ⟨rfl, by first | exact HW.out | exact HW.out.drew | exact below_redrawn HW.out _⟩
    · have HF : Hid (V = true) := HV.out.trans (risB_yes (by have := HK.out; rw [List.take_of_length_le (by omega)] at this; exact this))
      obtain rfl := HF.out
      go_wp2_with fail
      go_ret
      exact ⟨rfl, HW.out⟩
set_option maxHeartbeats 1000000 in
set_option maxRecDepth 100000 in
/-- rightItems -/
theorem pitems_any (p : Option Addr) (c : Nat) (l : Row) (w : World) (h : Strs w p l) (hl : l.length ≤ 140737488351232) (ht : ∀ x ∈ l, x.length ≤ 140737488351232) :
    Calls Tryd.prog 29 #[.slice p l.length c] w fun e w' => e = .returned (.bool (fitsB l)) ∧ w' = w := by
  have H := hid h
  have HT := hid ht
  have hlz : (l.length : Int) ≤ 140737488351232 := by omega
  obtain ⟨V, hV⟩ : ∃ V, V = fitsB l := ⟨_, rfl⟩
  rw [← hV]
  have HV := hid hV
  have HM := hid (pmany_any (l.length : Int))
  clear h ht hV
  go_enter Tryd.func29, Tryd.ntmps29
  go_wp2_with fail
  go_loopw [4, 7] (fun _ v7 W => ∃ k : Nat, v7 = .int .i64 k ∧ k ≤ l.length ∧ Hid (∀ x ∈ l.take k, x.length ≤ 1024) ∧ W = w) (fun _ v7 _ => l.length - (intOf v7).toNat)
  case atStart => exact ⟨0, rfl, Nat.zero_le _, by simp [Hid], rfl⟩
  case round =>
    obtain ⟨k, rfl, hk, HK, rfl⟩ := hrel
    by_cases hlt : k < l.length
    · have hkz : (k : Int) < (l.length : Int) := by omega
      obtain ⟨b, o, rfl, hc⟩ := H.out (fun e => by rw [e] at hlt; simp at hlt)
      have x0 := hc k hlt
      have HS : Hid (l.take (k + 1) = l.take k ++ [l[k]]) := List.take_succ_eq_append_getElem hlt
      have HIn : Hid (l[k] ∈ l) := List.getElem_mem hlt
      have hxl := HT.out _ HIn.out
      generalize l[k] = t at *
      clear hc
      have hxz : (t.length : Int) ≤ 140737488351232 := by omega
      by_cases e : (1024 : Int) < (t.length : Int)
      · obtain rfl : V = false := HV.out.trans (fitsB_no fun h => absurd (h.1 _ HIn.out) (by omega))
        go_wp2_with fail
        go_ret
        exact ⟨rfl, rfl⟩
      · have HK2 : Hid (∀ x ∈ l.take (k + 1), x.length ≤ 1024) := by
          show ∀ x ∈ l.take (k + 1), _
          rw [HS.out]
          intro x hx
          rcases List.mem_append.1 hx with hx | hx
          · exact HK.out x hx
          · rw [List.mem_singleton.1 hx]; omega
        go_wp2_with fail
        exact ⟨⟨k + 1, by go_num, by omega, HK2.out, trivial⟩, by simp [intOf]; omega⟩
    · have HA : Hid (∀ x ∈ l, x.length ≤ 1024) := by have := HK.out; rwa [List.take_of_length_le (by omega)] at this
      have HVV : Hid (V = decide (1 ≤ (l.length : Int) ∧ (l.length : Int) ≤ 256)) := by
        rw [Hid, HV.out, Bool.eq_iff_iff, fitsB_iff, decide_eq_true_iff]
        exact ⟨fun h => ⟨by have := h.2.1; omega, by have := h.2.2; omega⟩, fun h => ⟨HA.out, by omega, by omega⟩⟩
      rw [← HVV.out] at HM
      clear HV HVV
      go_wp2_with fail
      refine (HM.out _).mono ?_; rintro e w' ⟨rfl, rfl⟩
      go_wp2_with fail
      go_ret
      exact ⟨rfl, rfl⟩
set_option maxHeartbeats 2000000 in
set_option maxRecDepth 100000 in
/-- rightPairs -/
theorem ppairs_any (p : Option Addr) (c : Nat) (l : List (Nm × Nm)) (w : World) (h : Prs w p l) (hl : l.length ≤ 140737488351232) (h1 : ∀ x ∈ l.map (·.1), x.length ≤ 140737488351232) (h2 : ∀ x ∈ l.map (·.2), x.length ≤ 140737488351232) :
    Calls Tryd.prog 27 #[.slice p l.length c] w fun e w' => e = .returned (.bool (rpB l)) ∧ Hid (Below w.heap.size w w') := by
  have H := hid h
  have HT1 := hid h1
  have HT2 := hid h2
  have hlz : (l.length : Int) ≤ 140737488351232 := by omega
  obtain ⟨V, hV⟩ : ∃ V, V = rpB l := ⟨_, rfl⟩
  rw [← hV]
  have HV := hid hV
  have HM := hid (pmany_any (l.length : Int))
  clear h h1 h2 hV
  by_cases hm : 1 ≤ (l.length : Int) ∧ (l.length : Int) ≤ 256
  · rw [decide_eq_true hm] at HM
    have HB := hid (Below.refl w.heap.size w)
    go_enter Tryd.func27, Tryd.ntmps27
    go_wp2_with fail
    refine (HM.out _).mono ?_; rintro e w' ⟨rfl, rfl⟩
    go_wp2_with fail
    go_loopw [3, 5, 12] (fun v3 _ v12 W => ∃ (k : Nat) (q : Option Addr) (d : Nat), v12 = .int .i64 k ∧ v3 = .slice q k d ∧ k ≤ l.length ∧ Hid (∀ x ∈ (l.take k).map (·.1), x.length ≤ 1024) ∧ Hid (∀ x ∈ (l.take k).map (·.2), x.length ≤ 1024) ∧ Hid (Own w'.heap.size W (.slice q k d) ((l.take k).map (·.1))) ∧ Hid (Below w'.heap.size w' W)) (fun _ _ v12 _ => l.length - (intOf v12).toNat)
    case atStart => exact ⟨0, none, 0, rfl, rfl, Nat.zero_le _, by simp [Hid], by simp [Hid], World.ownsRow_nil _ _ _ _, HB.out⟩
    case round =>
      obtain ⟨k, q, d, rfl, rfl, hk, HK1, HK2, HO, HW⟩ := hrel
      have hml : ((l.take k).map (·.1)).length = k := by simp; omega
      by_cases hlt : k < l.length
      · have hkz : (k : Int) < (l.length : Int) := by omega
        obtain ⟨b, o, rfl, hc⟩ := H.out (fun e => by rw [e] at hlt; simp at hlt)
        have x0 := cell_turn (hc k hlt).1 (HW.out.block b (block_lt_of_cell (hc k hlt).1))
        have x1 := cell_turn (hc k hlt).2 (HW.out.block b (block_lt_of_cell (hc k hlt).1))
        have HS : Hid (l.take (k + 1) = l.take k ++ [l[k]]) := List.take_succ_eq_append_getElem hlt
        have HI1 : Hid (l[k].1 ∈ l.map (·.1)) := List.mem_map_of_mem (List.getElem_mem hlt)
        have HI2 : Hid (l[k].2 ∈ l.map (·.2)) := List.mem_map_of_mem (List.getElem_mem hlt)
        have hx1 := HT1.out _ HI1.out
        have hx2 := HT2.out _ HI2.out
        generalize l[k] = tu at *
        obtain ⟨t, u⟩ := tu
        dsimp only at *
        have hz1 : (t.length : Int) ≤ 140737488351232 := by omega
        have hz2 : (u.length : Int) ≤ 140737488351232 := by omega
        have hal := below_alloc wr (.cells #[txt t, txt u] 47)
        have HP := hid (heap_alloc_new wr (.cells #[txt t, txt u] 47))
        have HWa := hid (HW.out.trans (hal.mono HW.out.size))
        have y0 := cell_of_row _ wr.heap.size 0 _ _ _ HP.out
        have y1 := cell_of_row _ wr.heap.size 1 _ _ _ HP.out
        clear hc
        by_cases e1 : (1024 : Int) < (t.length : Int)
        · obtain rfl : V = false := HV.out.trans (rpB_no fun h => absurd (h.1.1 _ HI1.out) (by omega))
          clear hml hal
          go_wp2_with fail
          go_ret
          exact ⟨rfl, HWa.out⟩
        · by_cases e2 : (1024 : Int) < (u.length : Int)
          · obtain rfl : V = false := HV.out.trans (rpB_no fun h => absurd (h.2.2.1 _ HI2.out) (by omega))
            clear hml hal
            go_wp2_with fail
            go_ret
            exact ⟨rfl, HWa.out⟩
          · have HK1' : Hid (∀ x ∈ (l.take (k + 1)).map (·.1), x.length ≤ 1024) := by
              show ∀ x ∈ (l.take (k + 1)).map (·.1), _
              rw [HS.out, List.map_append]
              intro x hx
              rcases List.mem_append.1 hx with hx | hx
              · exact HK1.out x hx
              · have : x = t := by simpa using hx
                rw [this]; omega
            have HK2' : Hid (∀ x ∈ (l.take (k + 1)).map (·.2), x.length ≤ 1024) := by
              show ∀ x ∈ (l.take (k + 1)).map (·.2), _
              rw [HS.out, List.map_append]
              intro x hx
              rcases List.mem_append.1 hx with hx | hx
              · exact HK2.out x hx
              · have : x = u := by simpa using hx
                rw [this]; omega
            have ho : Own w'.heap.size (wr.alloc (.cells #[txt t, txt u] 47)) (.slice q k d) ((l.take k).map (·.1)) := owns_below HO.out hal
            obtain ⟨v2, W2, hrun, ho2, hb2⟩ := ho.push HWa.out.size t (by rw [hml]; omega)
            obtain ⟨q2, d2, rfl, -⟩ := ho2.shape
            have hl2 : ((l.take k).map (·.1) ++ [t]).length = k + 1 := by rw [List.length_append, hml]; rfl
            rw [hl2] at hrun ho2
            rw [show (wr.alloc (.cells #[txt t, txt u] 47)).heap.size = wr.heap.size + 1 by simp] at hrun
            have HE : Hid ((l.take (k + 1)).map (·.1) = (l.take k).map (·.1) ++ [t]) := by rw [Hid, HS.out, List.map_append]; rfl
            have HR2 := hid hrun
            have HO2 : Hid (Own w'.heap.size W2 (.slice q2 (k + 1) d2) ((l.take (k + 1)).map (·.1))) := by
              rw [Hid, HE.out]; exact ho2
            have HW2 := hid (HWa.out.trans hb2)
            clear hrun ho2 hb2 hl2 ho hml hal
            go_wp2_with (refine wpList_append_runs rfl _ _ 23 23 rfl _ _ _ _ rfl rfl HR2.out (Hid.out ?_))
            refine hid ?_
            go_wp2_with fail
            exact ⟨⟨k + 1, q2, d2, by go_num, rfl, by omega, HK1'.out, HK2'.out, HO2.out, HW2.out⟩, by simp [intOf]; omega⟩
      · obtain rfl : k = l.length := by omega
        have ho := HO.out
        have hk1 := HK1.out
        have hk2 := HK2.out
        rw [List.take_length] at ho hk1 hk2
        rw [List.take_length] at hml
        have HVV : Hid (V = risB (l.map (·.1))) := by
          rw [Hid, HV.out, Bool.eq_iff_iff, rpB_iff, risB_iff]
          exact ⟨fun h => h.2.1, fun h => ⟨⟨hk1, by rw [List.length_map]; omega, by rw [List.length_map]; omega⟩, h, ⟨hk2, by rw [List.length_map]; omega, by rw [List.length_map]; omega⟩⟩⟩
        have HSR := hid (seright_any q d (l.map (·.1)) wr ho.rd.strs (by rw [hml]; omega))
        rw [← HVV.out, hml] at HSR
        clear HVV ho hk1 hk2 hml
        go_wp2_with fail
        refine HSR.out.mono ?_; rintro e w3 ⟨rfl, hh⟩
        have HW3 := hid (HW.out.trans (hh.out.mono HW.out.size))
        clear hh
        go_wp2_with fail
        go_ret
        exact ⟨rfl, HW3.out⟩
  · rw [decide_eq_false hm] at HM
    obtain rfl : V = false := HV.out.trans (rpB_no fun h => hm (by have h1 := h.1.2.1; have h2 := h.1.2.2; rw [List.length_map] at h1 h2; omega))
    clear hm
    go_enter Tryd.func27, Tryd.ntmps27
    go_wp2_with fail
    refine (HM.out _).mono ?_; rintro e w' ⟨rfl, rfl⟩
    go_wp2_with fail
    go_ret
    exact ⟨rfl, Below.refl _ _⟩

end Go.Proofs.YtmjmdfenkhmfbabDoor
