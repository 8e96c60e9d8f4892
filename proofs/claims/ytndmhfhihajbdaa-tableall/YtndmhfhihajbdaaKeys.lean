/- The program's Keys. -/
import Derived.Test.YtndmhfhihajbdaaKeysP
namespace Go.Proofs.Ytndmhfhihajbdaa
open Go.RowKit

set_option maxHeartbeats 8000000 in
set_option maxRecDepth 100000 in
/-- The program's Keys. -/
theorem keys_any (p : Option Addr) (c : Nat) (l : Row) (w : World) (h : Rd w p c l) (hl : l.length ≤ 200) (ht : Txs l) :
    Calls Try.prog 17 #[.slice p l.length c] w fun e w' => ∃ q d, e = .returned (.slice q (keysL l).length d) ∧ Hid (Own w.heap.size w' (.slice q (keysL l).length d) (keysL l) ∧ Below w.heap.size w w') := by
  obtain ⟨R, hR⟩ : ∃ R, R = keysL l := ⟨_, rfl⟩
  rw [← hR]
  have HR := hid hR
  have HC := hid (check_any p c l w h hl ht)
  have HH := hid h
  have hlz : (l.length : Int) ≤ 200 := by omega
  have hlz0 : 0 ≤ (l.length : Int) := by omega
  clear hR h ht
  have hcc := chk_cases l
  have HP : Hid (pks l = fun i => decide ((chk l).2 = 0) && pk (chk l).1 i) := rfl
  have HR2 : Hid (R = selL (pks l) 1 (l.drop 1)) := HR.out
  clear HR
  generalize pks l = P at *
  generalize chk l = C at *
  obtain ⟨⟨nm, le, mo, fi, la, st, wrt⟩, E⟩ := C
  dsimp only at hcc
  rcases hcc with ⟨h1, h2⟩ | ⟨h1, h2, h3⟩
  · obtain rfl : R = [] := by
      rw [HR2.out, HP.out]
      exact sel_none _ _ fun i _ => by simp only [decide_eq_false h2]; rfl
    have hE : (E != 0) = true := bne_iff_ne.2 h2
    clear h1 h2 HP HR2
    go_enter Try.func17, Try.ntmps17
    go_wp2_with fail
    refine HC.out.mono ?_
    rintro _ W1 ⟨rfl, HW1⟩
    have HB := hid (HW1.out.trans ((below_alloc W1 (.cells #[txt nm, .int .i64 le, .int .i64 mo, .int .i64 fi, .int .i64 la, .int .i64 st, .bool wrt] 25)).mono HW1.out.size))
    simp only [Sp.cs] at ⊢
    go_wp2_with fail
    go_ret
    exact ⟨none, 0, rfl, World.ownsRow_nil _ _ _ _, HB.out⟩
  subst h1
  obtain ⟨b1, b2, b3, b4, hk⟩ := OkS.of h2
  clear h2
  rcases hk with ⟨rfl, rfl, rfl⟩ | ⟨rfl, hle, hk⟩
  · obtain rfl : R = [] := by
      rw [HR2.out, HP.out]
      exact sel_none _ _ fun i _ => by simp only [pk_zero]; rfl
    clear HP HR2 h3
    go_enter Try.func17, Try.ntmps17
    go_wp2_with fail
    refine HC.out.mono ?_
    rintro _ W1 ⟨rfl, HW1⟩
    have HB := hid (HW1.out.trans ((below_alloc W1 (.cells #[txt nm, .int .i64 le, .int .i64 mo, .int .i64 0, .int .i64 0, .int .i64 0, .bool wrt] 25)).mono HW1.out.size))
    simp only [Sp.cs] at ⊢
    go_wp2_with fail
    go_ret
    exact ⟨none, 0, rfl, World.ownsRow_nil _ _ _ _, HB.out⟩
  have hl2 : 1 < l.length := by omega
  clear hle h3
  rcases hk with ⟨rfl, rfl⟩ | ⟨rfl, rfl⟩ | ⟨rfl, rfl⟩
  · have HSt : Hid (∀ k, 1 ≤ k → True → k ≤ 1 → k < l.length ∧ selL P k (l.drop k) = (l[k]?.getD []) :: selL P (k + 1) (l.drop (k + 1)) ∧ True) := fun k hk1 hkc hk2 => by
      rw [show (l[k]?.getD []) = l[k]'(by omega) by rw [List.getElem?_eq_getElem (by omega)]; rfl]
      refine ⟨by omega, ?_, trivial⟩
      have : k = 1 := by omega
      subst this
      exact sel_yes (by omega) (by rw [HP.out]; simp only [pk_one (Nat.le_refl 1)]; rfl)
    have HEn : Hid (∀ k, 1 ≤ k → 1 < k → selL P k (l.drop k) = []) := fun k hk1 hk2 => by
      exact sel_none _ _ fun i hi => by rw [HP.out]; simp only [pk_one (i := i) (by omega), decide_eq_false (show ¬ i = 1 by omega)]; rfl
    clear HP
    go_enter Try.func17, Try.ntmps17
    go_wp2_with fail
    refine HC.out.mono ?_
    rintro _ W1 ⟨rfl, HW1⟩
    have hb2 := below_alloc W1 (.cells #[txt nm, .int .i64 le, .int .i64 mo, .int .i64 1, .int .i64 (1), .int .i64 1, .bool wrt] 25)
    have HB2 := hid (HW1.out.trans (hb2.mono HW1.out.size))
    have HS2 := hid (heap_alloc_new W1 (.cells #[txt nm, .int .i64 le, .int .i64 mo, .int .i64 1, .int .i64 (1), .int .i64 1, .bool wrt] 25))
    have HD2 := hid (HH.out.below HB2.out)
    have hs2 : W1.heap.size + 1 = (W1.alloc (.cells #[txt nm, .int .i64 le, .int .i64 mo, .int .i64 1, .int .i64 (1), .int .i64 1, .bool wrt] 25)).heap.size := by simp
    have HZ2 := hid hs2
    have HW1s := hid HW1.out.size
    clear hb2 hs2
    simp only [Sp.cs] at ⊢
    go_wp2_with fail
    generalize hU : W1.alloc (.cells #[txt nm, .int .i64 le, .int .i64 mo, .int .i64 1, .int .i64 (1), .int .i64 1, .bool wrt] 25) = U at *
    go_loopw [6, 7] (fun v6 v7 W => ∃ (k m : Nat) (q : Option Addr) (d : Nat) (acc : Row), v7 = .int .i64 k ∧ v6 = .slice q m d ∧ 1 ≤ k ∧ k ≤ l.length + 1 ∧ Hid (True) ∧ Hid (m = acc.length) ∧ m ≤ k ∧ Hid (acc ++ selL P k (l.drop k) = R) ∧ Hid (Own U.heap.size W (.slice q m d) acc) ∧ Hid (Below U.heap.size U W)) (fun _ v7 _ => l.length + 1 - (intOf v7).toNat)
    case atStart => exact ⟨1, 0, none, 0, [], rfl, rfl, by decide, by omega, trivial, rfl, by decide, by rw [List.nil_append]; exact HR2.out.symm, World.ownsRow_nil _ _ _ _, Below.refl _ _⟩
    case round =>
      obtain ⟨k, m, q, d, acc, rfl, rfl, hk1, hk2, HKc, HM, hm, HA, HO, HW⟩ := hrel
      have hk9 : (k : Int) ≤ 201 := by omega
      have x5 : wr.cell? ⟨W1.heap.size, 5, none⟩ = some (.int .i64 1) := cell_turn ((cell_of_row _ _ _ _ _ _ HS2.out).trans rfl) (HW.out.block W1.heap.size (by have := HZ2.out; omega))
      by_cases hlt : k ≤ 1
      · obtain ⟨hkl, hsel, hkc⟩ := HSt.out k hk1 HKc.out hlt
        have hkz : (k : Int) ≤ 1 := by omega
        have hkz2 : (k : Int) < (l.length : Int) := by omega
        obtain ⟨b, o, rfl, hc⟩ := HD2.out.strs (fun e => by rw [e] at hkl; simp at hkl)
        have x0 := hc k hkl
        have hbl := block_lt_of_cell x0
        have y0 := cell_turn x0 (HW.out.block b hbl)
        rw [show (l[k]?.getD []) = l[k] by rw [List.getElem?_eq_getElem hkl]; rfl] at hsel
        have HSel := hid hsel
        have HKc2 := hid hkc
        clear hc x0 hsel hkc
        generalize l[k] = t at *
        obtain ⟨v2, W2, hrun2, ho2, hb2⟩ := HO.out.push HW.out.size t (by have := HM.out; omega)
        obtain ⟨q2, d2, rfl, -⟩ := ho2.shape
        have hl2' : (acc ++ [t]).length = m + 1 := by rw [List.length_append, ← HM.out]; rfl
        rw [hl2'] at hrun2 ho2
        have HL2 := hid hl2'
        have HR3 := hid hrun2
        have HO2 := hid ho2
        have HW2 := hid (HW.out.trans hb2)
        have HA2 : Hid (acc ++ [t] ++ selL P (k + 1) (l.drop (k + 1)) = R) := by rw [Hid, ← HA.out, HSel.out]; simp
        have z5 : W2.cell? ⟨W1.heap.size, 5, none⟩ = some (.int .i64 1) := cell_turn ((cell_of_row _ _ _ _ _ _ HS2.out).trans rfl) (HW2.out.block W1.heap.size (by have := HZ2.out; omega))
        clear hrun2 ho2 hb2 hl2' x5
        go_wp2_with (refine wpList_append_runs rfl _ _ 31 31 rfl _ _ _ _ rfl rfl HR3.out (Hid.out ?_))
        refine hid ?_
        go_wp2_with fail
        exact ⟨⟨k + 1, m + 1, q2, d2, _, by go_num, rfl, by omega, by omega, HKc2.out, HL2.out.symm, by omega, HA2.out, HO2.out, HW2.out⟩, by simp [intOf]; omega⟩
      · have hkz : ¬ (k : Int) ≤ 1 := by omega
        have hend := HEn.out k hk1 (by omega)
        obtain rfl : acc = R := by have := HA.out; rw [hend] at this; simpa using this
        have hmm := HM.out
        subst hmm
        have HF := hid (HB2.out.trans (HW.out.mono (Nat.le_trans HW1s.out (by have := HZ2.out; omega))))
        have HOF := hid (HO.out.base (B := w.heap.size) (Nat.le_trans HW1s.out (by have := HZ2.out; omega)))
        go_wp2_with fail
        go_ret
        exact ⟨q, d, rfl, HOF.out, HF.out⟩
  · have HSt : Hid (∀ k, 1 ≤ k → True → k ≤ (l.length - 1) → k < l.length ∧ selL P k (l.drop k) = (l[k]?.getD []) :: selL P (k + 1) (l.drop (k + 1)) ∧ True) := fun k hk1 hkc hk2 => by
      rw [show (l[k]?.getD []) = l[k]'(by omega) by rw [List.getElem?_eq_getElem (by omega)]; rfl]
      refine ⟨by omega, ?_, trivial⟩
      exact sel_yes (by omega) (by rw [HP.out]; simp only [pk_all hk1]; rfl)
    have HEn : Hid (∀ k, 1 ≤ k → (l.length - 1) < k → selL P k (l.drop k) = []) := fun k hk1 hk2 => by
      exact sel_end (by omega)
    clear HP
    go_enter Try.func17, Try.ntmps17
    go_wp2_with fail
    refine HC.out.mono ?_
    rintro _ W1 ⟨rfl, HW1⟩
    have hb2 := below_alloc W1 (.cells #[txt nm, .int .i64 le, .int .i64 mo, .int .i64 1, .int .i64 (-1), .int .i64 1, .bool wrt] 25)
    have HB2 := hid (HW1.out.trans (hb2.mono HW1.out.size))
    have HS2 := hid (heap_alloc_new W1 (.cells #[txt nm, .int .i64 le, .int .i64 mo, .int .i64 1, .int .i64 (-1), .int .i64 1, .bool wrt] 25))
    have HD2 := hid (HH.out.below HB2.out)
    have hs2 : W1.heap.size + 1 = (W1.alloc (.cells #[txt nm, .int .i64 le, .int .i64 mo, .int .i64 1, .int .i64 (-1), .int .i64 1, .bool wrt] 25)).heap.size := by simp
    have HZ2 := hid hs2
    have HW1s := hid HW1.out.size
    clear hb2 hs2
    simp only [Sp.cs] at ⊢
    go_wp2_with fail
    generalize hU : W1.alloc (.cells #[txt nm, .int .i64 le, .int .i64 mo, .int .i64 1, .int .i64 (-1), .int .i64 1, .bool wrt] 25) = U at *
    go_loopw [6, 7] (fun v6 v7 W => ∃ (k m : Nat) (q : Option Addr) (d : Nat) (acc : Row), v7 = .int .i64 k ∧ v6 = .slice q m d ∧ 1 ≤ k ∧ k ≤ l.length + 1 ∧ Hid (True) ∧ Hid (m = acc.length) ∧ m ≤ k ∧ Hid (acc ++ selL P k (l.drop k) = R) ∧ Hid (Own U.heap.size W (.slice q m d) acc) ∧ Hid (Below U.heap.size U W)) (fun _ v7 _ => l.length + 1 - (intOf v7).toNat)
    case atStart => exact ⟨1, 0, none, 0, [], rfl, rfl, by decide, by omega, trivial, rfl, by decide, by rw [List.nil_append]; exact HR2.out.symm, World.ownsRow_nil _ _ _ _, Below.refl _ _⟩
    case round =>
      obtain ⟨k, m, q, d, acc, rfl, rfl, hk1, hk2, HKc, HM, hm, HA, HO, HW⟩ := hrel
      have hk9 : (k : Int) ≤ 201 := by omega
      have x5 : wr.cell? ⟨W1.heap.size, 5, none⟩ = some (.int .i64 1) := cell_turn ((cell_of_row _ _ _ _ _ _ HS2.out).trans rfl) (HW.out.block W1.heap.size (by have := HZ2.out; omega))
      by_cases hlt : k ≤ (l.length - 1)
      · obtain ⟨hkl, hsel, hkc⟩ := HSt.out k hk1 HKc.out hlt
        have hkz : (k : Int) ≤ (l.length : Int) - 1 := by omega
        have hkz2 : (k : Int) < (l.length : Int) := by omega
        obtain ⟨b, o, rfl, hc⟩ := HD2.out.strs (fun e => by rw [e] at hkl; simp at hkl)
        have x0 := hc k hkl
        have hbl := block_lt_of_cell x0
        have y0 := cell_turn x0 (HW.out.block b hbl)
        rw [show (l[k]?.getD []) = l[k] by rw [List.getElem?_eq_getElem hkl]; rfl] at hsel
        have HSel := hid hsel
        have HKc2 := hid hkc
        clear hc x0 hsel hkc
        generalize l[k] = t at *
        obtain ⟨v2, W2, hrun2, ho2, hb2⟩ := HO.out.push HW.out.size t (by have := HM.out; omega)
        obtain ⟨q2, d2, rfl, -⟩ := ho2.shape
        have hl2' : (acc ++ [t]).length = m + 1 := by rw [List.length_append, ← HM.out]; rfl
        rw [hl2'] at hrun2 ho2
        have HL2 := hid hl2'
        have HR3 := hid hrun2
        have HO2 := hid ho2
        have HW2 := hid (HW.out.trans hb2)
        have HA2 : Hid (acc ++ [t] ++ selL P (k + 1) (l.drop (k + 1)) = R) := by rw [Hid, ← HA.out, HSel.out]; simp
        have z5 : W2.cell? ⟨W1.heap.size, 5, none⟩ = some (.int .i64 1) := cell_turn ((cell_of_row _ _ _ _ _ _ HS2.out).trans rfl) (HW2.out.block W1.heap.size (by have := HZ2.out; omega))
        clear hrun2 ho2 hb2 hl2' x5
        go_wp2_with (refine wpList_append_runs rfl _ _ 31 31 rfl _ _ _ _ rfl rfl HR3.out (Hid.out ?_))
        refine hid ?_
        go_wp2_with fail
        exact ⟨⟨k + 1, m + 1, q2, d2, _, by go_num, rfl, by omega, by omega, HKc2.out, HL2.out.symm, by omega, HA2.out, HO2.out, HW2.out⟩, by simp [intOf]; omega⟩
      · have hkz : ¬ (k : Int) ≤ (l.length : Int) - 1 := by omega
        have hend := HEn.out k hk1 (by omega)
        obtain rfl : acc = R := by have := HA.out; rw [hend] at this; simpa using this
        have hmm := HM.out
        subst hmm
        have HF := hid (HB2.out.trans (HW.out.mono (Nat.le_trans HW1s.out (by have := HZ2.out; omega))))
        have HOF := hid (HO.out.base (B := w.heap.size) (Nat.le_trans HW1s.out (by have := HZ2.out; omega)))
        go_wp2_with fail
        go_ret
        exact ⟨q, d, rfl, HOF.out, HF.out⟩
  · have HSt : Hid (∀ k, 1 ≤ k → k % 2 = 1 → k ≤ (l.length - 1) → k < l.length ∧ selL P k (l.drop k) = (l[k]?.getD []) :: selL P (k + 2) (l.drop (k + 2)) ∧ (k + 2) % 2 = 1) := fun k hk1 hkc hk2 => by
      rw [show (l[k]?.getD []) = l[k]'(by omega) by rw [List.getElem?_eq_getElem (by omega)]; rfl]
      refine ⟨by omega, ?_, by omega⟩
      rw [sel_yes (by omega) (by rw [HP.out]; simp only [pk_two hk1, decide_eq_true hkc]; rfl)]
      by_cases e : k + 1 < l.length
      · rw [sel_no e (by rw [HP.out]; simp only [pk_two (i := k + 1) (by omega), decide_eq_false (show ¬ (k + 1) % 2 = 1 by omega)]; rfl)]
      · rw [sel_end (by omega), sel_end (by omega)]
    have HEn : Hid (∀ k, 1 ≤ k → (l.length - 1) < k → selL P k (l.drop k) = []) := fun k hk1 hk2 => by
      exact sel_end (by omega)
    clear HP
    go_enter Try.func17, Try.ntmps17
    go_wp2_with fail
    refine HC.out.mono ?_
    rintro _ W1 ⟨rfl, HW1⟩
    have hb2 := below_alloc W1 (.cells #[txt nm, .int .i64 le, .int .i64 mo, .int .i64 1, .int .i64 (-1), .int .i64 2, .bool wrt] 25)
    have HB2 := hid (HW1.out.trans (hb2.mono HW1.out.size))
    have HS2 := hid (heap_alloc_new W1 (.cells #[txt nm, .int .i64 le, .int .i64 mo, .int .i64 1, .int .i64 (-1), .int .i64 2, .bool wrt] 25))
    have HD2 := hid (HH.out.below HB2.out)
    have hs2 : W1.heap.size + 1 = (W1.alloc (.cells #[txt nm, .int .i64 le, .int .i64 mo, .int .i64 1, .int .i64 (-1), .int .i64 2, .bool wrt] 25)).heap.size := by simp
    have HZ2 := hid hs2
    have HW1s := hid HW1.out.size
    clear hb2 hs2
    simp only [Sp.cs] at ⊢
    go_wp2_with fail
    generalize hU : W1.alloc (.cells #[txt nm, .int .i64 le, .int .i64 mo, .int .i64 1, .int .i64 (-1), .int .i64 2, .bool wrt] 25) = U at *
    go_loopw [6, 7] (fun v6 v7 W => ∃ (k m : Nat) (q : Option Addr) (d : Nat) (acc : Row), v7 = .int .i64 k ∧ v6 = .slice q m d ∧ 1 ≤ k ∧ k ≤ l.length + 1 ∧ Hid (k % 2 = 1) ∧ Hid (m = acc.length) ∧ m ≤ k ∧ Hid (acc ++ selL P k (l.drop k) = R) ∧ Hid (Own U.heap.size W (.slice q m d) acc) ∧ Hid (Below U.heap.size U W)) (fun _ v7 _ => l.length + 1 - (intOf v7).toNat)
    case atStart => exact ⟨1, 0, none, 0, [], rfl, rfl, by decide, by omega, (rfl : 1 % 2 = 1), rfl, by decide, by rw [List.nil_append]; exact HR2.out.symm, World.ownsRow_nil _ _ _ _, Below.refl _ _⟩
    case round =>
      obtain ⟨k, m, q, d, acc, rfl, rfl, hk1, hk2, HKc, HM, hm, HA, HO, HW⟩ := hrel
      have hk9 : (k : Int) ≤ 201 := by omega
      have x5 : wr.cell? ⟨W1.heap.size, 5, none⟩ = some (.int .i64 2) := cell_turn ((cell_of_row _ _ _ _ _ _ HS2.out).trans rfl) (HW.out.block W1.heap.size (by have := HZ2.out; omega))
      by_cases hlt : k ≤ (l.length - 1)
      · obtain ⟨hkl, hsel, hkc⟩ := HSt.out k hk1 HKc.out hlt
        have hkz : (k : Int) ≤ (l.length : Int) - 1 := by omega
        have hkz2 : (k : Int) < (l.length : Int) := by omega
        obtain ⟨b, o, rfl, hc⟩ := HD2.out.strs (fun e => by rw [e] at hkl; simp at hkl)
        have x0 := hc k hkl
        have hbl := block_lt_of_cell x0
        have y0 := cell_turn x0 (HW.out.block b hbl)
        rw [show (l[k]?.getD []) = l[k] by rw [List.getElem?_eq_getElem hkl]; rfl] at hsel
        have HSel := hid hsel
        have HKc2 := hid hkc
        clear hc x0 hsel hkc
        generalize l[k] = t at *
        obtain ⟨v2, W2, hrun2, ho2, hb2⟩ := HO.out.push HW.out.size t (by have := HM.out; omega)
        obtain ⟨q2, d2, rfl, -⟩ := ho2.shape
        have hl2' : (acc ++ [t]).length = m + 1 := by rw [List.length_append, ← HM.out]; rfl
        rw [hl2'] at hrun2 ho2
        have HL2 := hid hl2'
        have HR3 := hid hrun2
        have HO2 := hid ho2
        have HW2 := hid (HW.out.trans hb2)
        have HA2 : Hid (acc ++ [t] ++ selL P (k + 2) (l.drop (k + 2)) = R) := by rw [Hid, ← HA.out, HSel.out]; simp
        have z5 : W2.cell? ⟨W1.heap.size, 5, none⟩ = some (.int .i64 2) := cell_turn ((cell_of_row _ _ _ _ _ _ HS2.out).trans rfl) (HW2.out.block W1.heap.size (by have := HZ2.out; omega))
        clear hrun2 ho2 hb2 hl2' x5
        go_wp2_with (refine wpList_append_runs rfl _ _ 31 31 rfl _ _ _ _ rfl rfl HR3.out (Hid.out ?_))
        refine hid ?_
        go_wp2_with fail
        exact ⟨⟨k + 2, m + 1, q2, d2, _, by go_num, rfl, by omega, by have := HSel; omega, HKc2.out, HL2.out.symm, by omega, HA2.out, HO2.out, HW2.out⟩, by simp [intOf]; omega⟩
      · have hkz : ¬ (k : Int) ≤ (l.length : Int) - 1 := by omega
        have hend := HEn.out k hk1 (by omega)
        obtain rfl : acc = R := by have := HA.out; rw [hend] at this; simpa using this
        have hmm := HM.out
        subst hmm
        have HF := hid (HB2.out.trans (HW.out.mono (Nat.le_trans HW1s.out (by have := HZ2.out; omega))))
        have HOF := hid (HO.out.base (B := w.heap.size) (Nat.le_trans HW1s.out (by have := HZ2.out; omega)))
        go_wp2_with fail
        go_ret
        exact ⟨q, d, rfl, HOF.out, HF.out⟩

end Go.Proofs.Ytndmhfhihajbdaa
