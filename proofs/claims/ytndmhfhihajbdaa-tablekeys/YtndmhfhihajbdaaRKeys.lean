/- The document's Keys. -/
import Derived.Test.YtndmhfhihajbdaaKeysP
namespace Go.Proofs.Ytndmhfhihajbdaa
open Go.RowKit

set_option maxHeartbeats 8000000 in
set_option maxRecDepth 100000 in
/-- The document's Keys. -/
theorem rkeys_any (p : Option Addr) (c : Nat) (l : Row) (w : World) (h : Rd w p c l) (hl : l.length ≤ 200) (ht : Txs l) :
    Calls Try.prog 18 #[.slice p l.length c] w fun e w' => ∃ q d, e = .returned (.slice q (keysL l).length d) ∧ Hid (Own w.heap.size w' (.slice q (keysL l).length d) (keysL l) ∧ Below w.heap.size w w') := by
  obtain ⟨R, hR⟩ : ∃ R, R = keysL l := ⟨_, rfl⟩
  rw [← hR]
  have HR := hid hR
  have HC := hid (rcheck_any p c l w h hl ht)
  have HH := hid h
  have hlz : (l.length : Int) ≤ 200 := by omega
  have hlz0 : 0 ≤ (l.length : Int) := by omega
  clear hR h ht
  have hcc := chk_cases l
  have HP : Hid (pks l = fun i => decide ((chk l).2 = 0) && pk (chk l).1 i) := rfl
  have HR2 : Hid (R = selL (pks l) 1 (l.drop 1)) := HR.out
  have HRl : Hid (l.length = 0 → R = []) := fun h => by rw [HR.out, List.length_eq_zero_iff.1 h]; rfl
  clear HR
  generalize pks l = P at *
  generalize chk l = C at *
  obtain ⟨⟨nm, le, mo, fi, la, st, wrt⟩, E⟩ := C
  dsimp only at hcc
  rcases hcc with ⟨h1, h2⟩ | ⟨h1, h2, h3⟩
  · injection h1 with e0 e1 e2 e3 e4 e5 e6
    subst e3 e4 e5
    have hE : (E == 0) = false := beq_eq_false_iff_ne.2 h2
    have HPf : Hid (∀ k, P k = false) := fun k => by rw [HP.out]; simp only [decide_eq_false h2]; rfl
    clear h2 HP e0 e1 e2 e6
    go_enter Try.func18, Try.ntmps18
    go_wp2_with fail
    refine HC.out.mono ?_
    rintro _ W1 ⟨rfl, HW1⟩
    have hb2 := below_alloc W1 (.cells #[txt nm, .int .i64 le, .int .i64 mo, .int .i64 (0), .int .i64 (0), .int .i64 (0), .bool wrt] 25)
    have HB2 := hid (HW1.out.trans (hb2.mono HW1.out.size))
    have HS2 := hid (heap_alloc_new W1 (.cells #[txt nm, .int .i64 le, .int .i64 mo, .int .i64 (0), .int .i64 (0), .int .i64 (0), .bool wrt] 25))
    have HD2 := hid (HH.out.below HB2.out)
    have hs2 : W1.heap.size + 1 = (W1.alloc (.cells #[txt nm, .int .i64 le, .int .i64 mo, .int .i64 (0), .int .i64 (0), .int .i64 (0), .bool wrt] 25)).heap.size := by simp
    have HZ2 := hid hs2
    have HW1s := hid HW1.out.size
    clear hb2 hs2
    simp only [Sp.cs] at ⊢
    go_wp2_with fail
    generalize hU : W1.alloc (.cells #[txt nm, .int .i64 le, .int .i64 mo, .int .i64 (0), .int .i64 (0), .int .i64 (0), .bool wrt] 25) = U at *
    go_loopw [3, 6] (fun v3 v6 W => ∃ (k m : Nat) (q : Option Addr) (d : Nat) (acc : Row), v6 = .int .i64 k ∧ v3 = .slice q m d ∧ 1 ≤ k ∧ (k ≤ l.length ∨ k = 1) ∧ Hid (m = acc.length) ∧ m ≤ k ∧ Hid (acc ++ selL P k (l.drop k) = R) ∧ Hid (Own U.heap.size W (.slice q m d) acc) ∧ Hid (Below U.heap.size U W)) (fun _ v6 _ => l.length - (intOf v6).toNat)
    case atStart => exact ⟨1, 0, none, 0, [], rfl, rfl, by decide, .inr rfl, rfl, by decide, by rw [List.nil_append]; exact HR2.out.symm, World.ownsRow_nil _ _ _ _, Below.refl _ _⟩
    case round =>
      obtain ⟨k, m, q, d, acc, rfl, rfl, hk1, hk2, HM, hm, HA, HO, HW⟩ := hrel
      have x3 : wr.cell? ⟨W1.heap.size, 3, none⟩ = some (.int .i64 (0)) := cell_turn ((cell_of_row _ _ _ _ _ _ HS2.out).trans rfl) (HW.out.block W1.heap.size (by have := HZ2.out; omega))
      have x4 : wr.cell? ⟨W1.heap.size, 4, none⟩ = some (.int .i64 (0)) := cell_turn ((cell_of_row _ _ _ _ _ _ HS2.out).trans rfl) (HW.out.block W1.heap.size (by have := HZ2.out; omega))
      have x5 : wr.cell? ⟨W1.heap.size, 5, none⟩ = some (.int .i64 (0)) := cell_turn ((cell_of_row _ _ _ _ _ _ HS2.out).trans rfl) (HW.out.block W1.heap.size (by have := HZ2.out; omega))
      by_cases hlt : k < l.length
      · have hkz : (k : Int) < (l.length : Int) := by omega
        have hk1z : 1 ≤ (k : Int) := by omega
        have hk9 : (k : Int) ≤ 200 := by omega
        clear hk2
        have HA2 : Hid (acc ++ selL P (k + 1) (l.drop (k + 1)) = R) := by rw [Hid, ← HA.out, sel_no hlt (HPf.out k)]
        clear HD2
        go_wp2_with fail
        exact ⟨⟨k + 1, m, q, d, acc, by go_num, rfl, by omega, .inl (by omega), HM.out, by omega, HA2.out, HO.out, HW.out⟩, by simp [intOf]; omega⟩
      · have hend : selL P k (l.drop k) = [] := sel_end (by omega)
        have hkz : ¬ (k : Int) < (l.length : Int) := by omega
        obtain rfl : acc = R := by have := HA.out; rw [hend] at this; simpa using this
        have hmm := HM.out
        subst hmm
        have HF := hid (HB2.out.trans (HW.out.mono (Nat.le_trans HW1s.out (by have := HZ2.out; omega))))
        have HOF := hid (HO.out.base (B := w.heap.size) (Nat.le_trans HW1s.out (by have := HZ2.out; omega)))
        clear hk2
        go_wp2_with fail
        go_ret
        exact ⟨q, d, rfl, HOF.out, HF.out⟩
  subst h1
  obtain ⟨b1, b2, b3, b4, hk⟩ := OkS.of h2
  clear h2
  rcases hk with ⟨rfl, rfl, rfl⟩ | ⟨rfl, hle, hk⟩
  · have HPf : Hid (∀ k, P k = false) := fun k => by rw [HP.out]; simp only [pk_zero]; rfl
    clear HP h3
    go_enter Try.func18, Try.ntmps18
    go_wp2_with fail
    refine HC.out.mono ?_
    rintro _ W1 ⟨rfl, HW1⟩
    have hb2 := below_alloc W1 (.cells #[txt nm, .int .i64 le, .int .i64 mo, .int .i64 (0), .int .i64 (0), .int .i64 (0), .bool wrt] 25)
    have HB2 := hid (HW1.out.trans (hb2.mono HW1.out.size))
    have HS2 := hid (heap_alloc_new W1 (.cells #[txt nm, .int .i64 le, .int .i64 mo, .int .i64 (0), .int .i64 (0), .int .i64 (0), .bool wrt] 25))
    have HD2 := hid (HH.out.below HB2.out)
    have hs2 : W1.heap.size + 1 = (W1.alloc (.cells #[txt nm, .int .i64 le, .int .i64 mo, .int .i64 (0), .int .i64 (0), .int .i64 (0), .bool wrt] 25)).heap.size := by simp
    have HZ2 := hid hs2
    have HW1s := hid HW1.out.size
    clear hb2 hs2
    simp only [Sp.cs] at ⊢
    go_wp2_with fail
    generalize hU : W1.alloc (.cells #[txt nm, .int .i64 le, .int .i64 mo, .int .i64 (0), .int .i64 (0), .int .i64 (0), .bool wrt] 25) = U at *
    go_loopw [3, 6] (fun v3 v6 W => ∃ (k m : Nat) (q : Option Addr) (d : Nat) (acc : Row), v6 = .int .i64 k ∧ v3 = .slice q m d ∧ 1 ≤ k ∧ (k ≤ l.length ∨ k = 1) ∧ Hid (m = acc.length) ∧ m ≤ k ∧ Hid (acc ++ selL P k (l.drop k) = R) ∧ Hid (Own U.heap.size W (.slice q m d) acc) ∧ Hid (Below U.heap.size U W)) (fun _ v6 _ => l.length - (intOf v6).toNat)
    case atStart => exact ⟨1, 0, none, 0, [], rfl, rfl, by decide, .inr rfl, rfl, by decide, by rw [List.nil_append]; exact HR2.out.symm, World.ownsRow_nil _ _ _ _, Below.refl _ _⟩
    case round =>
      obtain ⟨k, m, q, d, acc, rfl, rfl, hk1, hk2, HM, hm, HA, HO, HW⟩ := hrel
      have x3 : wr.cell? ⟨W1.heap.size, 3, none⟩ = some (.int .i64 (0)) := cell_turn ((cell_of_row _ _ _ _ _ _ HS2.out).trans rfl) (HW.out.block W1.heap.size (by have := HZ2.out; omega))
      have x4 : wr.cell? ⟨W1.heap.size, 4, none⟩ = some (.int .i64 (0)) := cell_turn ((cell_of_row _ _ _ _ _ _ HS2.out).trans rfl) (HW.out.block W1.heap.size (by have := HZ2.out; omega))
      have x5 : wr.cell? ⟨W1.heap.size, 5, none⟩ = some (.int .i64 (0)) := cell_turn ((cell_of_row _ _ _ _ _ _ HS2.out).trans rfl) (HW.out.block W1.heap.size (by have := HZ2.out; omega))
      by_cases hlt : k < l.length
      · have hkz : (k : Int) < (l.length : Int) := by omega
        have hk1z : 1 ≤ (k : Int) := by omega
        have hk9 : (k : Int) ≤ 200 := by omega
        clear hk2
        have HA2 : Hid (acc ++ selL P (k + 1) (l.drop (k + 1)) = R) := by rw [Hid, ← HA.out, sel_no hlt (HPf.out k)]
        clear HD2
        go_wp2_with fail
        exact ⟨⟨k + 1, m, q, d, acc, by go_num, rfl, by omega, .inl (by omega), HM.out, by omega, HA2.out, HO.out, HW.out⟩, by simp [intOf]; omega⟩
      · have hend : selL P k (l.drop k) = [] := sel_end (by omega)
        have hkz : ¬ (k : Int) < (l.length : Int) := by omega
        obtain rfl : acc = R := by have := HA.out; rw [hend] at this; simpa using this
        have hmm := HM.out
        subst hmm
        have HF := hid (HB2.out.trans (HW.out.mono (Nat.le_trans HW1s.out (by have := HZ2.out; omega))))
        have HOF := hid (HO.out.base (B := w.heap.size) (Nat.le_trans HW1s.out (by have := HZ2.out; omega)))
        clear hk2
        go_wp2_with fail
        go_ret
        exact ⟨q, d, rfl, HOF.out, HF.out⟩
  clear hle h3
  rcases hk with ⟨rfl, rfl⟩ | ⟨rfl, rfl⟩ | ⟨rfl, rfl⟩
  · have HPf : Hid (∀ k, 1 ≤ k → P k = decide (k = 1)) := fun k hk => by rw [HP.out]; simp only [pk_one hk]; rfl
    clear HP
    go_enter Try.func18, Try.ntmps18
    go_wp2_with fail
    refine HC.out.mono ?_
    rintro _ W1 ⟨rfl, HW1⟩
    have hb2 := below_alloc W1 (.cells #[txt nm, .int .i64 le, .int .i64 mo, .int .i64 (1), .int .i64 (1), .int .i64 (1), .bool wrt] 25)
    have HB2 := hid (HW1.out.trans (hb2.mono HW1.out.size))
    have HS2 := hid (heap_alloc_new W1 (.cells #[txt nm, .int .i64 le, .int .i64 mo, .int .i64 (1), .int .i64 (1), .int .i64 (1), .bool wrt] 25))
    have HD2 := hid (HH.out.below HB2.out)
    have hs2 : W1.heap.size + 1 = (W1.alloc (.cells #[txt nm, .int .i64 le, .int .i64 mo, .int .i64 (1), .int .i64 (1), .int .i64 (1), .bool wrt] 25)).heap.size := by simp
    have HZ2 := hid hs2
    have HW1s := hid HW1.out.size
    clear hb2 hs2
    simp only [Sp.cs] at ⊢
    go_wp2_with fail
    generalize hU : W1.alloc (.cells #[txt nm, .int .i64 le, .int .i64 mo, .int .i64 (1), .int .i64 (1), .int .i64 (1), .bool wrt] 25) = U at *
    go_loopw [3, 6] (fun v3 v6 W => ∃ (k m : Nat) (q : Option Addr) (d : Nat) (acc : Row), v6 = .int .i64 k ∧ v3 = .slice q m d ∧ 1 ≤ k ∧ (k ≤ l.length ∨ k = 1) ∧ Hid (m = acc.length) ∧ m ≤ k ∧ Hid (acc ++ selL P k (l.drop k) = R) ∧ Hid (Own U.heap.size W (.slice q m d) acc) ∧ Hid (Below U.heap.size U W)) (fun _ v6 _ => l.length - (intOf v6).toNat)
    case atStart => exact ⟨1, 0, none, 0, [], rfl, rfl, by decide, .inr rfl, rfl, by decide, by rw [List.nil_append]; exact HR2.out.symm, World.ownsRow_nil _ _ _ _, Below.refl _ _⟩
    case round =>
      obtain ⟨k, m, q, d, acc, rfl, rfl, hk1, hk2, HM, hm, HA, HO, HW⟩ := hrel
      have x3 : wr.cell? ⟨W1.heap.size, 3, none⟩ = some (.int .i64 (1)) := cell_turn ((cell_of_row _ _ _ _ _ _ HS2.out).trans rfl) (HW.out.block W1.heap.size (by have := HZ2.out; omega))
      have x4 : wr.cell? ⟨W1.heap.size, 4, none⟩ = some (.int .i64 (1)) := cell_turn ((cell_of_row _ _ _ _ _ _ HS2.out).trans rfl) (HW.out.block W1.heap.size (by have := HZ2.out; omega))
      have x5 : wr.cell? ⟨W1.heap.size, 5, none⟩ = some (.int .i64 (1)) := cell_turn ((cell_of_row _ _ _ _ _ _ HS2.out).trans rfl) (HW.out.block W1.heap.size (by have := HZ2.out; omega))
      by_cases hlt : k < l.length
      · have hkz : (k : Int) < (l.length : Int) := by omega
        have hk1z : 1 ≤ (k : Int) := by omega
        have hk9 : (k : Int) ≤ 200 := by omega
        clear hk2
        by_cases e : k = 1
        · have hk3 : (k : Int) ≤ 1 := by omega
          have hr : ((k : Int) - 1).tmod 1 = 0 := Int.tmod_one _
          have HSel := hid (sel_yes (p := P) hlt ((HPf.out k hk1).trans (decide_eq_true e)))
          clear e
          obtain ⟨b, o, rfl, hc⟩ := HD2.out.strs (fun e => by rw [e] at hlt; simp at hlt)
          have x0 := hc k hlt
          have hbl := block_lt_of_cell x0
          have y0 := cell_turn x0 (HW.out.block b hbl)
          clear hc x0
          generalize l[k] = t at *
          obtain ⟨v2, W2, hrun2, ho2, hb2⟩ := HO.out.push HW.out.size t (by have := HM.out; omega)
          obtain ⟨q2, d2, rfl, -⟩ := ho2.shape
          have hl2' : (acc ++ [t]).length = m + 1 := by rw [List.length_append, ← HM.out]; rfl
          rw [hl2'] at hrun2 ho2
          have HL2 := hid hl2'
          have HR3 := hid hrun2
          have HO2 := hid ho2
          have HW2 := hid (HW.out.trans hb2)
          have HA2 : Hid (acc ++ [t] ++ selL P (k + 1) (l.drop (k + 1)) = R) := by rw [Hid, ← HA.out, HSel.out]; simp
          clear hrun2 ho2 hb2 hl2' HSel
          go_wp2_with (refine wpList_append_runs rfl _ _ 31 31 rfl _ _ _ _ rfl rfl HR3.out (Hid.out ?_))
          refine hid ?_
          go_wp2_with fail
          exact ⟨⟨k + 1, m + 1, q2, d2, _, by go_num, rfl, by omega, .inl (by omega), HL2.out.symm, by omega, HA2.out, HO2.out, HW2.out⟩, by simp [intOf]; omega⟩
        · have hk3 : 1 < (k : Int) := by omega
          have HA2 : Hid (acc ++ selL P (k + 1) (l.drop (k + 1)) = R) := by rw [Hid, ← HA.out, sel_no hlt ((HPf.out k hk1).trans (decide_eq_false e))]
          clear HD2 e hk1z
          go_wp2_with fail
          exact ⟨⟨k + 1, m, q, d, acc, by go_num, rfl, by omega, .inl (by omega), HM.out, by omega, HA2.out, HO.out, HW.out⟩, by simp [intOf]; omega⟩
      · have hend : selL P k (l.drop k) = [] := sel_end (by omega)
        have hkz : ¬ (k : Int) < (l.length : Int) := by omega
        obtain rfl : acc = R := by have := HA.out; rw [hend] at this; simpa using this
        have hmm := HM.out
        subst hmm
        have HF := hid (HB2.out.trans (HW.out.mono (Nat.le_trans HW1s.out (by have := HZ2.out; omega))))
        have HOF := hid (HO.out.base (B := w.heap.size) (Nat.le_trans HW1s.out (by have := HZ2.out; omega)))
        clear hk2
        go_wp2_with fail
        go_ret
        exact ⟨q, d, rfl, HOF.out, HF.out⟩
  · have HPf : Hid (∀ k, 1 ≤ k → P k = true) := fun k hk => by rw [HP.out]; simp only [pk_all hk]; rfl
    clear HP
    go_enter Try.func18, Try.ntmps18
    go_wp2_with fail
    refine HC.out.mono ?_
    rintro _ W1 ⟨rfl, HW1⟩
    have hb2 := below_alloc W1 (.cells #[txt nm, .int .i64 le, .int .i64 mo, .int .i64 (1), .int .i64 (-1), .int .i64 (1), .bool wrt] 25)
    have HB2 := hid (HW1.out.trans (hb2.mono HW1.out.size))
    have HS2 := hid (heap_alloc_new W1 (.cells #[txt nm, .int .i64 le, .int .i64 mo, .int .i64 (1), .int .i64 (-1), .int .i64 (1), .bool wrt] 25))
    have HD2 := hid (HH.out.below HB2.out)
    have hs2 : W1.heap.size + 1 = (W1.alloc (.cells #[txt nm, .int .i64 le, .int .i64 mo, .int .i64 (1), .int .i64 (-1), .int .i64 (1), .bool wrt] 25)).heap.size := by simp
    have HZ2 := hid hs2
    have HW1s := hid HW1.out.size
    clear hb2 hs2
    simp only [Sp.cs] at ⊢
    go_wp2_with fail
    generalize hU : W1.alloc (.cells #[txt nm, .int .i64 le, .int .i64 mo, .int .i64 (1), .int .i64 (-1), .int .i64 (1), .bool wrt] 25) = U at *
    go_loopw [3, 6] (fun v3 v6 W => ∃ (k m : Nat) (q : Option Addr) (d : Nat) (acc : Row), v6 = .int .i64 k ∧ v3 = .slice q m d ∧ 1 ≤ k ∧ (k ≤ l.length ∨ k = 1) ∧ Hid (m = acc.length) ∧ m ≤ k ∧ Hid (acc ++ selL P k (l.drop k) = R) ∧ Hid (Own U.heap.size W (.slice q m d) acc) ∧ Hid (Below U.heap.size U W)) (fun _ v6 _ => l.length - (intOf v6).toNat)
    case atStart => exact ⟨1, 0, none, 0, [], rfl, rfl, by decide, .inr rfl, rfl, by decide, by rw [List.nil_append]; exact HR2.out.symm, World.ownsRow_nil _ _ _ _, Below.refl _ _⟩
    case round =>
      obtain ⟨k, m, q, d, acc, rfl, rfl, hk1, hk2, HM, hm, HA, HO, HW⟩ := hrel
      have x3 : wr.cell? ⟨W1.heap.size, 3, none⟩ = some (.int .i64 (1)) := cell_turn ((cell_of_row _ _ _ _ _ _ HS2.out).trans rfl) (HW.out.block W1.heap.size (by have := HZ2.out; omega))
      have x4 : wr.cell? ⟨W1.heap.size, 4, none⟩ = some (.int .i64 (-1)) := cell_turn ((cell_of_row _ _ _ _ _ _ HS2.out).trans rfl) (HW.out.block W1.heap.size (by have := HZ2.out; omega))
      have x5 : wr.cell? ⟨W1.heap.size, 5, none⟩ = some (.int .i64 (1)) := cell_turn ((cell_of_row _ _ _ _ _ _ HS2.out).trans rfl) (HW.out.block W1.heap.size (by have := HZ2.out; omega))
      by_cases hlt : k < l.length
      · have hkz : (k : Int) < (l.length : Int) := by omega
        have hk1z : 1 ≤ (k : Int) := by omega
        have hk9 : (k : Int) ≤ 200 := by omega
        clear hk2
        have hr : ((k : Int) - 1).tmod 1 = 0 := Int.tmod_one _
        have HSel := hid (sel_yes (p := P) hlt (HPf.out k hk1))
        obtain ⟨b, o, rfl, hc⟩ := HD2.out.strs (fun e => by rw [e] at hlt; simp at hlt)
        have x0 := hc k hlt
        have hbl := block_lt_of_cell x0
        have y0 := cell_turn x0 (HW.out.block b hbl)
        clear hc x0
        generalize l[k] = t at *
        obtain ⟨v2, W2, hrun2, ho2, hb2⟩ := HO.out.push HW.out.size t (by have := HM.out; omega)
        obtain ⟨q2, d2, rfl, -⟩ := ho2.shape
        have hl2' : (acc ++ [t]).length = m + 1 := by rw [List.length_append, ← HM.out]; rfl
        rw [hl2'] at hrun2 ho2
        have HL2 := hid hl2'
        have HR3 := hid hrun2
        have HO2 := hid ho2
        have HW2 := hid (HW.out.trans hb2)
        have HA2 : Hid (acc ++ [t] ++ selL P (k + 1) (l.drop (k + 1)) = R) := by rw [Hid, ← HA.out, HSel.out]; simp
        clear hrun2 ho2 hb2 hl2' HSel
        go_wp2_with (refine wpList_append_runs rfl _ _ 31 31 rfl _ _ _ _ rfl rfl HR3.out (Hid.out ?_))
        refine hid ?_
        go_wp2_with fail
        exact ⟨⟨k + 1, m + 1, q2, d2, _, by go_num, rfl, by omega, .inl (by omega), HL2.out.symm, by omega, HA2.out, HO2.out, HW2.out⟩, by simp [intOf]; omega⟩
      · have hend : selL P k (l.drop k) = [] := sel_end (by omega)
        have hkz : ¬ (k : Int) < (l.length : Int) := by omega
        obtain rfl : acc = R := by have := HA.out; rw [hend] at this; simpa using this
        have hmm := HM.out
        subst hmm
        have HF := hid (HB2.out.trans (HW.out.mono (Nat.le_trans HW1s.out (by have := HZ2.out; omega))))
        have HOF := hid (HO.out.base (B := w.heap.size) (Nat.le_trans HW1s.out (by have := HZ2.out; omega)))
        clear hk2
        go_wp2_with fail
        go_ret
        exact ⟨q, d, rfl, HOF.out, HF.out⟩
  · have HPf : Hid (∀ k, 1 ≤ k → P k = decide (k % 2 = 1)) := fun k hk => by rw [HP.out]; simp only [pk_two hk]; rfl
    have HMd : Hid (∀ k : Nat, 1 ≤ k → ((k : Int) - 1).tmod 2 = ((k - 1 : Nat) % 2 : Nat)) := fun k hk => by
      rw [show (k : Int) - 1 = ((k - 1 : Nat) : Int) by omega]; rfl
    clear HP
    go_enter Try.func18, Try.ntmps18
    go_wp2_with fail
    refine HC.out.mono ?_
    rintro _ W1 ⟨rfl, HW1⟩
    have hb2 := below_alloc W1 (.cells #[txt nm, .int .i64 le, .int .i64 mo, .int .i64 (1), .int .i64 (-1), .int .i64 (2), .bool wrt] 25)
    have HB2 := hid (HW1.out.trans (hb2.mono HW1.out.size))
    have HS2 := hid (heap_alloc_new W1 (.cells #[txt nm, .int .i64 le, .int .i64 mo, .int .i64 (1), .int .i64 (-1), .int .i64 (2), .bool wrt] 25))
    have HD2 := hid (HH.out.below HB2.out)
    have hs2 : W1.heap.size + 1 = (W1.alloc (.cells #[txt nm, .int .i64 le, .int .i64 mo, .int .i64 (1), .int .i64 (-1), .int .i64 (2), .bool wrt] 25)).heap.size := by simp
    have HZ2 := hid hs2
    have HW1s := hid HW1.out.size
    clear hb2 hs2
    simp only [Sp.cs] at ⊢
    go_wp2_with fail
    generalize hU : W1.alloc (.cells #[txt nm, .int .i64 le, .int .i64 mo, .int .i64 (1), .int .i64 (-1), .int .i64 (2), .bool wrt] 25) = U at *
    go_loopw [3, 6] (fun v3 v6 W => ∃ (k m : Nat) (q : Option Addr) (d : Nat) (acc : Row), v6 = .int .i64 k ∧ v3 = .slice q m d ∧ 1 ≤ k ∧ (k ≤ l.length ∨ k = 1) ∧ Hid (m = acc.length) ∧ m ≤ k ∧ Hid (acc ++ selL P k (l.drop k) = R) ∧ Hid (Own U.heap.size W (.slice q m d) acc) ∧ Hid (Below U.heap.size U W)) (fun _ v6 _ => l.length - (intOf v6).toNat)
    case atStart => exact ⟨1, 0, none, 0, [], rfl, rfl, by decide, .inr rfl, rfl, by decide, by rw [List.nil_append]; exact HR2.out.symm, World.ownsRow_nil _ _ _ _, Below.refl _ _⟩
    case round =>
      obtain ⟨k, m, q, d, acc, rfl, rfl, hk1, hk2, HM, hm, HA, HO, HW⟩ := hrel
      have x3 : wr.cell? ⟨W1.heap.size, 3, none⟩ = some (.int .i64 (1)) := cell_turn ((cell_of_row _ _ _ _ _ _ HS2.out).trans rfl) (HW.out.block W1.heap.size (by have := HZ2.out; omega))
      have x4 : wr.cell? ⟨W1.heap.size, 4, none⟩ = some (.int .i64 (-1)) := cell_turn ((cell_of_row _ _ _ _ _ _ HS2.out).trans rfl) (HW.out.block W1.heap.size (by have := HZ2.out; omega))
      have x5 : wr.cell? ⟨W1.heap.size, 5, none⟩ = some (.int .i64 (2)) := cell_turn ((cell_of_row _ _ _ _ _ _ HS2.out).trans rfl) (HW.out.block W1.heap.size (by have := HZ2.out; omega))
      by_cases hlt : k < l.length
      · have hkz : (k : Int) < (l.length : Int) := by omega
        have hk1z : 1 ≤ (k : Int) := by omega
        have hk9 : (k : Int) ≤ 200 := by omega
        clear hk2
        by_cases e : k % 2 = 1
        · have hr : ((k : Int) - 1).tmod 2 = 0 := by rw [HMd.out k hk1]; omega
          have HSel := hid (sel_yes (p := P) hlt ((HPf.out k hk1).trans (decide_eq_true e)))
          clear e
          obtain ⟨b, o, rfl, hc⟩ := HD2.out.strs (fun e => by rw [e] at hlt; simp at hlt)
          have x0 := hc k hlt
          have hbl := block_lt_of_cell x0
          have y0 := cell_turn x0 (HW.out.block b hbl)
          clear hc x0
          generalize l[k] = t at *
          obtain ⟨v2, W2, hrun2, ho2, hb2⟩ := HO.out.push HW.out.size t (by have := HM.out; omega)
          obtain ⟨q2, d2, rfl, -⟩ := ho2.shape
          have hl2' : (acc ++ [t]).length = m + 1 := by rw [List.length_append, ← HM.out]; rfl
          rw [hl2'] at hrun2 ho2
          have HL2 := hid hl2'
          have HR3 := hid hrun2
          have HO2 := hid ho2
          have HW2 := hid (HW.out.trans hb2)
          have HA2 : Hid (acc ++ [t] ++ selL P (k + 1) (l.drop (k + 1)) = R) := by rw [Hid, ← HA.out, HSel.out]; simp
          clear hrun2 ho2 hb2 hl2' HSel
          go_wp2_with (refine wpList_append_runs rfl _ _ 31 31 rfl _ _ _ _ rfl rfl HR3.out (Hid.out ?_))
          refine hid ?_
          go_wp2_with fail
          exact ⟨⟨k + 1, m + 1, q2, d2, _, by go_num, rfl, by omega, .inl (by omega), HL2.out.symm, by omega, HA2.out, HO2.out, HW2.out⟩, by simp [intOf]; omega⟩
        · obtain ⟨r, hr⟩ : ∃ r, ((k : Int) - 1).tmod 2 = r := ⟨_, rfl⟩
          have hrb : (r == 0) = false := by rw [← hr, HMd.out k hk1, beq_eq_false_iff_ne]; omega
          have HA2 : Hid (acc ++ selL P (k + 1) (l.drop (k + 1)) = R) := by rw [Hid, ← HA.out, sel_no hlt ((HPf.out k hk1).trans (decide_eq_false e))]
          clear HD2 e
          go_wp2_with fail
          exact ⟨⟨k + 1, m, q, d, acc, by go_num, rfl, by omega, .inl (by omega), HM.out, by omega, HA2.out, HO.out, HW.out⟩, by simp [intOf]; omega⟩
      · have hend : selL P k (l.drop k) = [] := sel_end (by omega)
        have hkz : ¬ (k : Int) < (l.length : Int) := by omega
        obtain rfl : acc = R := by have := HA.out; rw [hend] at this; simpa using this
        have hmm := HM.out
        subst hmm
        have HF := hid (HB2.out.trans (HW.out.mono (Nat.le_trans HW1s.out (by have := HZ2.out; omega))))
        have HOF := hid (HO.out.base (B := w.heap.size) (Nat.le_trans HW1s.out (by have := HZ2.out; omega)))
        clear hk2
        go_wp2_with fail
        go_ret
        exact ⟨q, d, rfl, HOF.out, HF.out⟩

end Go.Proofs.Ytndmhfhihajbdaa
