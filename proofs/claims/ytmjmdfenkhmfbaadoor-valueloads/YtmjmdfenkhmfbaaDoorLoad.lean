/- The document's Load. -/
import Derived.Test.YtmjmdfenkhmfbaaDoorReadH
import Derived.Test.YtmjmdfenkhmfbaaDoorDump
import Derived.Lib.ConvBytes
namespace Go.Proofs.YtmjmdfenkhmfbaaDoor
open Go.RowKit

theorem lst_short (r : Nm) (n : Nat) : (lst (rdT r n)).length ≤ n ∧ ∀ x ∈ lst (rdT r n), x.length < 65536 := by
  cases h : rdT r n with
  | none => exact ⟨Nat.zero_le _, fun x hx => by simp [lst] at hx⟩
  | some P =>
    obtain ⟨L, R⟩ := P
    obtain ⟨h1, _, h3⟩ := rdT_len n r L R h
    exact ⟨Nat.le_of_eq h1, h3⟩
theorem unflat_mem : ∀ (l : List Nm) (k : Nat), (∀ x ∈ l, x.length < k) → (∀ x ∈ (unflat l).map (·.1), x.length < k) ∧ ∀ x ∈ (unflat l).map (·.2), x.length < k
  | [], k, _ => ⟨fun x hx => by simp [unflat] at hx, fun x hx => by simp [unflat] at hx⟩
  | [_], k, _ => ⟨fun x hx => by simp [unflat] at hx, fun x hx => by simp [unflat] at hx⟩
  | a :: b :: l, k, h => by
    obtain ⟨h1, h2⟩ := unflat_mem l k (fun x hx => h x (by simp [hx]))
    have ha := h a (by simp)
    have hb := h b (by simp)
    constructor
    · intro x hx
      rcases List.mem_cons.1 (show x ∈ a :: (unflat l).map (·.1) from hx) with rfl | hx
      · exact ha
      · exact h1 x hx
    · intro x hx
      rcases List.mem_cons.1 (show x ∈ b :: (unflat l).map (·.2) from hx) with rfl | hx
      · exact hb
      · exact h2 x hx
theorem short_zero (k x y : Int) : Short ⟨k, [], [], [], x, y⟩ := ⟨by simp, by simp, by simp, by simp, by simp, by simp⟩
/-- what is read is not too long to be written -/
theorem read_short (s : Nm) : Short (readV s) := by
  unfold readV
  split
  · rename_i a b c r
    split
    · have := lst_short (b :: c :: r) 1
      refine ⟨by simp, by simp, ?_, by simp, by simp, by simp⟩
      dsimp only
      cases h : lst (rdT (b :: c :: r) 1) with
      | nil => simp
      | cons x l =>
        have := this.2 x (by rw [h]; simp)
        show x.length ≤ _
        omega
    · split
      · by_cases hb : 256 < num2 b c
        · rw [if_pos hb]; exact short_zero _ _ _
        · rw [if_neg hb]
          have h1 := lst_short r (2 * num2 b c)
          have h2 := unflat_mem _ _ h1.2
          have h3 := unflat_len (lst (rdT r (2 * num2 b c)))
          exact ⟨by dsimp only; omega, by simp, by simp, fun x hx => by have := h2.1 x hx; omega, fun x hx => by have := h2.2 x hx; omega, by simp⟩
      · split
        · by_cases hb : 256 < num2 b c
          · rw [if_pos hb]; exact short_zero _ _ _
          · rw [if_neg hb]
            have h1 := lst_short r (num2 b c)
            exact ⟨by simp, by dsimp only; omega, by simp, by simp, by simp, fun x hx => by have := h1.2 x hx; omega⟩
        · split
          · split <;> exact short_zero _ _ _
          · exact short_zero _ _ _
  · exact short_zero _ _ _
set_option maxHeartbeats 4000000 in
set_option maxRecDepth 100000 in
/-- ref Load -/
theorem rload_any (s : Nm) (w : World) (hs : s.length ≤ 140737488351232) :
    Calls Tryd.prog 20 #[txt s] w fun e w' => ∃ pp pc' ip ic, e = .returned (.tuple #[vv (loadV s).1 pp pc' ip ic, .int .i64 (loadV s).2]) ∧ Hid (VI w' (loadV s).1 pp pc' ip ic ∧ Fr w.heap.size pp ip ∧ Below w.heap.size w w') := by
  obtain ⟨T, hT⟩ : ∃ T : ByteArray, T = ⟨s.toArray⟩ := ⟨_, rfl⟩
  have hTs : T.size = s.length := by rw [hT]; simp [ByteArray.size]
  have htx : txt s = .string T := by rw [hT]
  have hTl : T.toList = s := by rw [hT, Lib.toList_data]
  rw [htx]
  have HZ0 := hid (heap_alloc_new w (vob zeroV none 0 none 0))
  have HW0 := hid (below_alloc w (vob zeroV none 0 none 0))
  obtain ⟨M, hM⟩ : ∃ M, M = loadV s := ⟨_, rfl⟩
  rw [← hM]
  have hsz : (T.size : Int) ≤ 140737488351232 := by omega
  by_cases h3 : s.length < 3
  · rw [load_short h3] at hM
    subst hM
    obtain ⟨c0, c1, c2, c3, c4, c5⟩ := val_facts HZ0.out
    obtain ⟨g0, g1, g2, g3, g4, g5⟩ := val_frozen HZ0.out
    have h3z : (T.size : Int) < 3 := by omega
    clear hT hTs htx hTl h3
    go_enter Tryd.func20, Tryd.ntmps20
    go_wp2_with fail
    refine bodyPost_ret (v := .tuple #[vv zeroV none 0 none 0, .int .i64 100]) (ret_vtel rfl rfl rfl HZ0.out) rfl ⟨none, 0, none, 0, rfl, VI.zero _, Fr.none _, HW0.out⟩
  · obtain ⟨N, hN⟩ : ∃ N, N = s.length - 2 := ⟨_, rfl⟩
    have hNe : (T.size : Int) - 2 = (N : Int) := by omega
    have hN1 : (1 : Int) ≤ (N : Int) := by omega
    have hNz : (N : Int) ≤ (T.size : Int) := by omega
    have hNb : (N : Int) ≤ 140737488351232 := by omega
    obtain ⟨A, hA⟩ : ∃ A, A = s.take N := ⟨_, rfl⟩
    obtain ⟨B, hB⟩ : ∃ B, B = s.drop N := ⟨_, rfl⟩
    have e1 : T.extract 0 N = ⟨A.toArray⟩ := by rw [hT, hA]; apply ByteArray.ext; simp [ByteArray.data_extract]
    have e2 : T.extract N T.size = ⟨B.toArray⟩ := by
      rw [hTs, hT, hB]
      apply ByteArray.ext
      simp only [ByteArray.data_extract, List.extract_toArray, List.extract_eq_take_drop]
      rw [List.take_of_length_le (by simp)]
    have hAl : A.length = N := by rw [hA]; simp; omega
    have kc := fun (w : World) (s : ByteArray) => Lib.run_convert_string_bytes (P := Tryd.prog) w 9 40 5 s Tryd.underlying9 Tryd.underlying40 Tryd.underlying5
    have HSm : Hid (∀ (W : World) (c : Nat), Calls Tryd.prog 37 #[.slice (some ⟨W.heap.size, 0, none⟩) A.length c] (Lib.bytesWorld W 5 ⟨A.toArray⟩) fun e w' => e = .returned (.int .u16 (sumN A : Int)) ∧ w' = Lib.bytesWorld W 5 ⟨A.toArray⟩) := fun W c => r1sum_any _ c A _ (bytesWorld_row W 5 A (by omega))
    have hslt := sumN_lt A
    have HT := hid (fun W => two_any (sumN A) W hslt)
    have HRd := hid (fun W => rread_any A W (by omega) (by omega))
    have HDp := hid (fun pp pc' ip ic W h => rdump_any (readV A) pp pc' ip ic W (read_short A) h)
    have hok : sumOk s ↔ B = two (sumN A) := by unfold sumOk; rw [hA, hB, hN]
    have hAe : A = s.take (s.length - 2) := by rw [hA, hN]
    obtain ⟨sm, hsm⟩ : ∃ sm, sm = sumN A := ⟨_, rfl⟩
    rw [← hsm] at HSm HT hslt hok
    have hwr : IntKind.i64.wrap (sm : Int) = (sm : Int) := by rw [IntKind.wrap_i64]; omega
    obtain ⟨W1, hW1⟩ : ∃ W1, W1 = (w.alloc (vob zeroV none 0 none 0)).drew := ⟨_, rfl⟩
    have hW1s : W1.heap.size = w.heap.size + 1 := by rw [hW1]; simp
    have HZ1 : Hid (W1.heap[w.heap.size]? = some (.cells (vcs zeroV none 0 none 0) 27 (0, 0))) := by rw [hW1]; exact HZ0.out
    have HW1 : Hid (Below w.heap.size w W1) := by rw [hW1]; exact HW0.out.drew
    have HS1 : Hid (∀ c : Nat, Calls Tryd.prog 37 #[.slice (some ⟨w.heap.size + 1, 0, none⟩) A.length c] (Lib.bytesWorld (w.alloc (vob zeroV none 0 none 0)).drew 5 ⟨A.toArray⟩) fun e w' => e = .returned (.int .u16 (sm : Int)) ∧ Hid (Below W1.heap.size W1 w')) := fun c => by
      have := HSm.out W1 c
      rw [hW1s] at this
      rw [← hW1]
      refine this.mono ?_
      rintro e w' ⟨rfl, rfl⟩
      exact ⟨rfl, bytesWorld_below W1 _ _⟩
    have HQ1 := hid hW1s
    by_cases hq : B = two sm
    · have hso := hok.2 hq
      have hqb : (two sm == B) = true := beq_iff_eq.2 hq.symm
      have HMd : Hid ((rightB (readV A) = true ∧ dumpS (readV A) = s → M = (readV A, 0)) ∧ (¬ (rightB (readV A) = true ∧ dumpS (readV A) = s) → M = (zeroV, 100))) := by
        constructor
        · rintro ⟨h1, h2⟩
          rw [show dumpS (readV A) = dumpV (readV A) from if_pos h1] at h2
          rw [hM]
          rw [hAe] at h1 h2 ⊢
          exact load_read (rightB_iff.1 h1) h2
        · intro hno
          rw [hM]
          refine load_other h3 hso fun ⟨h1, h2⟩ => hno ?_
          rw [← hAe] at h1 h2
          have h1' := rightB_iff.2 h1
          exact ⟨h1', by rw [show dumpS (readV A) = dumpV (readV A) from if_pos h1']; exact h2⟩
      obtain ⟨T2, hT2⟩ : ∃ T2, T2 = two sm := ⟨_, rfl⟩
      rw [← hT2] at HT hqb
      have HTl := hid hTl
      generalize readV A = m at *
      clear hM hT hTs htx hTl h3 hN hA hB hAl hslt hok hAe hsm hq hT2 hW1s HSm hso
      generalize rightB m = R at *
      generalize dumpS m = D at *
      go_enter Tryd.func20, Tryd.ntmps20
      go_wp2_with fail
      go_region_law (first
        | (go_simp; go_at_call 37; refine (HS1.out _).mono ?_; rintro e w3 ⟨rfl, hh⟩; have HZ3 := hid ((hh.out.block w.heap.size (by have := HQ1.out; omega)).trans HZ1.out); have HW3 := hid (HW1.out.trans (hh.out.mono HW1.out.size)); clear hh)
        | (go_simp; go_at_call 38; refine (HT.out _).mono ?_; rintro e w4 ⟨rfl, hh⟩; have HZ4 := hid ((hh.out.block w.heap.size (Array.getElem?_eq_some_iff.1 HZ3.out).1).trans HZ3.out); have HW4 := hid (HW3.out.trans (hh.out.mono HW3.out.size)); clear hh))
      all_goals go_wp2_with fail
      all_goals refine (HRd.out _).mono ?_
      all_goals rintro e w5 ⟨pp, pc', ip, ic, rfl, hh⟩
      all_goals have HZ5 := hid ((heap_alloc_old w5 (vob m pp pc' ip ic) (Nat.lt_of_lt_of_le (Array.getElem?_eq_some_iff.1 HZ4.out).1 hh.out.2.2.size)).trans ((hh.out.2.2.block w.heap.size (Array.getElem?_eq_some_iff.1 HZ4.out).1).trans HZ4.out))
      all_goals have HW5 := hid (HW4.out.trans (hh.out.2.2.mono HW4.out.size))
      all_goals have HFr := hid (And.intro hh.out.2.1 (Array.getElem?_eq_some_iff.1 HZ4.out).1)
      all_goals have HV5 := hid hh.out.1
      all_goals have HX6 := hid (val_new w5 m pp pc' ip ic)
      all_goals have HW6 := hid (HW5.out.trans ((below_alloc w5 (vob m pp pc' ip ic)).mono HW5.out.size))
      all_goals have HV6 := hid (HV5.out.below (below_alloc w5 (vob m pp pc' ip ic)))
      all_goals clear hh
      all_goals obtain ⟨d0, d1, d2, d3, d4, d5⟩ := val_facts HX6.out
      all_goals go_wp2_with fail
      all_goals refine (HDp.out pp pc' ip ic _ HV6.out).mono ?_
      all_goals rintro e w7 ⟨rfl, hh⟩
      all_goals have HZ7 := hid ((hh.out.block w.heap.size (Array.getElem?_eq_some_iff.1 HZ5.out).1).trans HZ5.out)
      all_goals have HX7 := hid ((hh.out.block w5.heap.size (by simp)).trans HX6.out)
      all_goals have HW7 := hid (HW6.out.trans (hh.out.mono HW6.out.size))
      all_goals have HV7 := hid (HV6.out.below hh.out)
      all_goals clear hh d0 d1 d2 d3 d4 d5
      all_goals obtain ⟨d0, d1, d2, d3, d4, d5⟩ := val_facts HX7.out
      all_goals obtain ⟨c0, c1, c2, c3, c4, c5⟩ := val_facts HZ7.out
      all_goals obtain ⟨g0, g1, g2, g3, g4, g5⟩ := val_frozen HZ7.out
      all_goals by_cases hR : R = true ∧ D = s
      all_goals first
        | (obtain ⟨hR1, hD⟩ := hR
           have hDb : (D == T.toList) = true := by rw [HTl.out]; exact beq_iff_eq.2 hD
           have hMz := HMd.out.1 ⟨hR1, hD⟩
           have HMz := hid hMz
           subst hR1
           clear hMz hD
           go_wp2_with fail
           rw [HMz.out]
           exact bodyPost_ret (v := .tuple #[vv m pp pc' ip ic, .int .i64 0]) (ret_vtel rfl rfl rfl (set_six HZ7.out HW7.out (Nat.le_refl _)).1) rfl ⟨pp, pc', ip, ic, rfl, HV7.out.set6 HFr.out.1 HFr.out.2 _ _ _ _ _ _, HFr.out.1.mono HW4.out.size, (set_six HZ7.out HW7.out (Nat.le_refl _)).2⟩)
        | (have hMz := HMd.out.2 hR
           have HMz := hid hMz
           have HRR := hid hR
           clear hMz hR
           cases R with
           | false =>
             go_wp2_with fail
             rw [HMz.out]
             exact bodyPost_ret (v := .tuple #[vv zeroV none 0 none 0, .int .i64 100]) (ret_vtel rfl rfl rfl (set_six HZ7.out HW7.out (Nat.le_refl _)).1) rfl ⟨none, 0, none, 0, rfl, VI.zero _, Fr.none _, (set_six HZ7.out HW7.out (Nat.le_refl _)).2⟩
           | true =>
             have hDb : (D == T.toList) = false := by rw [HTl.out]; exact beq_eq_false_iff_ne.2 fun e => HRR.out ⟨rfl, e⟩
             go_wp2_with fail
             rw [HMz.out]
             exact bodyPost_ret (v := .tuple #[vv zeroV none 0 none 0, .int .i64 100]) (ret_vtel rfl rfl rfl (set_six HZ7.out HW7.out (Nat.le_refl _)).1) rfl ⟨none, 0, none, 0, rfl, VI.zero _, Fr.none _, (set_six HZ7.out HW7.out (Nat.le_refl _)).2⟩)
    · rw [load_sum h3 (fun h => hq (hok.1 h))] at hM
      subst hM
      have hqb : (two sm == B) = false := beq_eq_false_iff_ne.2 fun e => hq e.symm
      obtain ⟨T2, hT2⟩ : ∃ T2, T2 = two sm := ⟨_, rfl⟩
      rw [← hT2] at HT hqb
      clear hT hTs htx hTl h3 hN hA hB hAl hslt hok hAe hsm hq hT2 hW1s HSm
      go_enter Tryd.func20, Tryd.ntmps20
      go_wp2_with fail
      go_region_law (first
        | (go_simp; go_at_call 37; refine (HS1.out _).mono ?_; rintro e w3 ⟨rfl, hh⟩; have HZ3 := hid ((hh.out.block w.heap.size (by have := HQ1.out; omega)).trans HZ1.out); have HW3 := hid (HW1.out.trans (hh.out.mono HW1.out.size)); clear hh)
        | (go_simp; go_at_call 38; refine (HT.out _).mono ?_; rintro e w4 ⟨rfl, hh⟩; have HZ4 := hid ((hh.out.block w.heap.size (Array.getElem?_eq_some_iff.1 HZ3.out).1).trans HZ3.out); have HW4 := hid (HW3.out.trans (hh.out.mono HW3.out.size)); clear hh; obtain ⟨c0, c1, c2, c3, c4, c5⟩ := val_facts HZ4.out; obtain ⟨g0, g1, g2, g3, g4, g5⟩ := val_frozen HZ4.out))
      all_goals go_wp2_with fail
      all_goals refine bodyPost_ret (v := .tuple #[vv zeroV none 0 none 0, .int .i64 101]) (ret_vtel rfl rfl rfl (set_six HZ4.out HW4.out (Nat.le_refl _)).1) rfl ⟨none, 0, none, 0, rfl, VI.zero _, Fr.none _, (set_six HZ4.out HW4.out (Nat.le_refl _)).2⟩

end Go.Proofs.YtmjmdfenkhmfbaaDoor
