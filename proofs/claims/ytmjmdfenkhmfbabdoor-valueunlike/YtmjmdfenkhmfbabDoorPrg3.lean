/- The program's Load, Size. -/
import Derived.Test.YtmjmdfenkhmfbabDoorPrg2
namespace Go.Proofs.YtmjmdfenkhmfbabDoor
open Go.RowKit

theorem rdr_came (s : Nm) : Came (rdrV s) := by
  obtain ⟨h1, h2, h3, h4, h5, h6, h7, h8⟩ := rdr_small s
  refine ⟨by omega, by omega, by omega, fun x hx => ?_, fun x hx => ?_, fun x hx => ?_, by omega, by omega, by omega⟩
  · obtain ⟨p, hp, rfl⟩ := List.mem_map.1 hx
    have := (h4 p hp).1; omega
  · obtain ⟨p, hp, rfl⟩ := List.mem_map.1 hx
    have := (h4 p hp).2; omega
  · have := h5 x hx; omega
set_option maxHeartbeats 4000000 in
set_option maxRecDepth 100000 in
/-- Load -/
theorem pload_any (s : Nm) (w : World) (hTb : Tab w) (hs : s.length ≤ 140737488351232) :
    Calls Tryd.prog 5 #[txt s] w fun e w' => ∃ pp pc' ip ic, e = .returned (.tuple #[vv (loadV s).1 pp pc' ip ic, .int .i64 (loadV s).2]) ∧ Hid (VI w' (loadV s).1 pp pc' ip ic ∧ Below w.heap.size w w') := by
  obtain ⟨T, hT⟩ : ∃ T : ByteArray, T = ⟨s.toArray⟩ := ⟨_, rfl⟩
  have hTs : T.size = s.length := by rw [hT]; simp [ByteArray.size]
  have htx : txt s = .string T := by rw [hT]
  have hTl : T.toList = s := by rw [hT, Lib.toList_data]
  have HTb := hid hTb
  have HZ0 := hid (heap_alloc_new w (vob zeroV none 0 none 0))
  have HW0 := hid (below_alloc w (vob zeroV none 0 none 0))
  obtain ⟨M, hM⟩ : ∃ M, M = loadV s := ⟨_, rfl⟩
  rw [← hM]
  have hsz : (T.size : Int) ≤ 140737488351232 := by omega
  by_cases h3 : s.length < 3
  · rw [load_short h3] at hM
    subst hM
    rw [htx]
    obtain ⟨c0, c1, c2, c3, c4, c5⟩ := val_facts HZ0.out
    obtain ⟨g0, g1, g2, g3, g4, g5⟩ := val_frozen HZ0.out
    have h3z : (T.size : Int) < 3 := by omega
    clear hT hTs htx hTl h3 hTb
    go_enter Tryd.func5, Tryd.ntmps5
    go_wp2_with fail
    refine bodyPost_ret (v := .tuple #[vv zeroV none 0 none 0, .int .i64 100]) (ret_vtel rfl rfl rfl HZ0.out) rfl ⟨none, 0, none, 0, rfl, VI.zero _, HW0.out⟩
  · have h3z : (3 : Int) ≤ (T.size : Int) := by omega
    by_cases hq : sumOk s
    · have HSH : Hid (∀ W, Tab W → Calls Tryd.prog 9 #[txt s] W fun e w' => e = .returned (.bool true) ∧ Hid (Below W.heap.size W w')) := fun W hW => pholds_any s W hW hs (by omega) true ⟨fun _ => hq, fun _ => rfl⟩
      obtain ⟨N, hN⟩ : ∃ N, N = s.length - 2 := ⟨_, rfl⟩
      have hNe : (T.size : Int) - 2 = (N : Int) := by omega
      have hN1 : (1 : Int) ≤ (N : Int) := by omega
      have hNz : (N : Int) ≤ (T.size : Int) := by omega
      have hNb : (N : Int) ≤ 140737488351232 := by omega
      obtain ⟨A, hA⟩ : ∃ A, A = s.take N := ⟨_, rfl⟩
      have e1 : T.extract 0 N = ⟨A.toArray⟩ := by rw [hT, hA]; apply ByteArray.ext; simp [ByteArray.data_extract]
      have hAl : A.length ≤ 140737488351232 := by rw [hA]; simp; omega
      have HRd : Hid (∀ b W, Box W b A → Calls Tryd.prog 10 #[.pointer (some ⟨b, 0, none⟩)] W fun e w' => ∃ pp pc' ip ic, e = .returned (vv (rdrV A) pp pc' ip ic) ∧ Hid (VI w' (rdrV A) pp pc' ip ic ∧ Fr W.heap.size pp ip ∧ ∃ r, RT b W w' r)) := fun b W h => rdvalue_any b A W h hAl
      have HDp := hid (fun pp pc' ip ic W ht h => pdump_any (rdrV A) pp pc' ip ic W ht (rdr_came A) h)
      have hAe : s.take (s.length - 2) = A := by rw [hA, hN]
      have HMd : Hid ((dumpS (rdrV A) = s → M = (rdrV A, 0)) ∧ (dumpS (rdrV A) ≠ s → M = (zeroV, 100))) := by
        constructor
        · intro e
          have hr : rightB (rdrV A) = true := by
            cases hb : rightB (rdrV A) with
            | true => rfl
            | false =>
              rw [dumpS, hb] at e
              rw [← e] at h3
              exact absurd (by simp) h3
          rw [show dumpS (rdrV A) = dumpV (rdrV A) from if_pos hr] at e
          rw [hM]
          have := load_rdr (s := s) (by rw [hAe]; exact rightB_iff.1 hr) (by rw [hAe]; exact e)
          rw [hAe] at this
          exact this
        · intro e
          rw [hM]
          refine load_nor h3 hq fun ⟨k1, k2⟩ => e ?_
          rw [hAe] at k1 k2
          rw [show dumpS (rdrV A) = dumpV (rdrV A) from if_pos (rightB_iff.2 k1)]
          exact k2
      have HTl := hid hTl
      generalize rdrV A = m at *
      generalize rightB m = R at *
      generalize dumpS m = D at *
      rw [htx] at HSH ⊢
      clear hM hT hTs htx hTl h3 hN hA hAl hAe hTb hs hq
      go_enter Tryd.func5, Tryd.ntmps5
      go_wp2_with fail
      refine (HSH.out _ (HTb.out.env HW0.out)).mono ?_; rintro e w1 ⟨rfl, hh⟩
      have hz1 := (hh.out.block w.heap.size (by simp)).trans HZ0.out
      have HW1 := hid (HW0.out.trans (hh.out.mono HW0.out.size))
      have hal := below_alloc w1 (.cells #[.string ⟨A.toArray⟩] 37)
      have hlt1 : w.heap.size < w1.heap.size := (Array.getElem?_eq_some_iff.1 hz1).1
      have HZ2 := hid ((hal.block w.heap.size hlt1).trans hz1)
      have HBx : Hid (Box (w1.alloc (.cells #[.string ⟨A.toArray⟩] 37)) w1.heap.size A) := heap_alloc_new w1 (.cells #[.string ⟨A.toArray⟩] 37)
      have HW2 := hid (HW1.out.trans (hal.mono HW1.out.size))
      have hsz2 : (w1.alloc (.cells #[.string ⟨A.toArray⟩] 37)).heap.size = w1.heap.size + 1 := by simp
      have HS2 := hid hsz2
      clear hh hz1 hal hsz2
      go_wp2_with fail
      refine (HRd.out _ _ HBx.out).mono ?_; rintro e w3 ⟨pp, pc', ip, ic, rfl, hh⟩
      obtain ⟨hV3, hF3, r, hR3⟩ := hh.out
      have hW3 := Below.tail HW2.out hR3.keep (fun i hi => by show i ≠ _; omega) HW2.out.size
      have hz3 := (hR3.keep.block w.heap.size (by rw [HS2.out]; omega) (by show _ ≠ _; omega)).trans HZ2.out
      have hal := below_alloc w3 (vob m pp pc' ip ic)
      have hlt3 : w.heap.size < w3.heap.size := (Array.getElem?_eq_some_iff.1 hz3).1
      have HF := hid hF3
      have HW4 := hid (hW3.trans (hal.mono hW3.size))
      have HZ4 := hid ((hal.block w.heap.size hlt3).trans hz3)
      have HX4 := hid (val_new w3 m pp pc' ip ic)
      have HV4 := hid (hV3.below hal)
      clear hh hV3 hF3 hR3 hW3 hz3 hal
      obtain ⟨d0, d1, d2, d3, d4, d5⟩ := val_facts HX4.out
      go_wp2_with fail
      refine (HDp.out pp pc' ip ic _ (HTb.out.env HW4.out) HV4.out).mono ?_; rintro e w5 ⟨rfl, hh⟩
      have HZ5 := hid ((hh.out.block w.heap.size (Array.getElem?_eq_some_iff.1 HZ4.out).1).trans HZ4.out)
      have HX5 := hid ((hh.out.block w3.heap.size (by simp)).trans HX4.out)
      have HW5 := hid (HW4.out.trans (hh.out.mono HW4.out.size))
      have HV5 := hid (HV4.out.below hh.out)
      clear hh d0 d1 d2 d3 d4 d5
      obtain ⟨d0, d1, d2, d3, d4, d5⟩ := val_facts HX5.out
      obtain ⟨c0, c1, c2, c3, c4, c5⟩ := val_facts HZ5.out
      obtain ⟨g0, g1, g2, g3, g4, g5⟩ := val_frozen HZ5.out
      by_cases hD : D = s
      · have hDb : (D == T.toList) = true := by rw [HTl.out]; exact beq_iff_eq.2 hD
        have hDn : (D != T.toList) = false := by rw [HTl.out, hD]; simp
        have HMz := hid (HMd.out.1 hD)
        clear hD
        go_wp2_with fail
        rw [HMz.out]
        exact bodyPost_ret (v := .tuple #[vv m pp pc' ip ic, .int .i64 0]) (ret_vtel rfl rfl rfl (set_six HZ5.out HW5.out (Nat.le_refl _)).1) rfl ⟨pp, pc', ip, ic, rfl, HV5.out.set6 HF.out (by rw [HS2.out]; omega) _ _ _ _ _ _, (set_six HZ5.out HW5.out (Nat.le_refl _)).2⟩
      · have hDb : (D == T.toList) = false := by rw [HTl.out]; exact beq_eq_false_iff_ne.2 hD
        have hDn : (D != T.toList) = true := by rw [HTl.out]; exact bne_iff_ne.2 hD
        have HMz := hid (HMd.out.2 hD)
        clear hD
        go_wp2_with fail
        rw [HMz.out]
        exact bodyPost_ret (v := .tuple #[vv zeroV none 0 none 0, .int .i64 100]) (ret_vtel rfl rfl rfl (set_six HZ5.out HW5.out (Nat.le_refl _)).1) rfl ⟨none, 0, none, 0, rfl, VI.zero _, (set_six HZ5.out HW5.out (Nat.le_refl _)).2⟩
    · have HSH : Hid (∀ W, Tab W → Calls Tryd.prog 9 #[txt s] W fun e w' => e = .returned (.bool false) ∧ Hid (Below W.heap.size W w')) := fun W hW => pholds_any s W hW hs (by omega) false ⟨(fun h => by cases h), fun h => absurd h hq⟩
      rw [load_sum h3 hq] at hM
      subst hM
      rw [htx] at HSH ⊢
      clear hT hTs htx hTl h3 hTb hs hq
      go_enter Tryd.func5, Tryd.ntmps5
      go_wp2_with fail
      refine (HSH.out _ (HTb.out.env HW0.out)).mono ?_; rintro e w1 ⟨rfl, hh⟩
      have HZ1 := hid ((hh.out.block w.heap.size (by simp)).trans HZ0.out)
      have HW1 := hid (HW0.out.trans (hh.out.mono HW0.out.size))
      clear hh
      obtain ⟨c0, c1, c2, c3, c4, c5⟩ := val_facts HZ1.out
      obtain ⟨g0, g1, g2, g3, g4, g5⟩ := val_frozen HZ1.out
      go_wp2_with fail
      exact bodyPost_ret (v := .tuple #[vv zeroV none 0 none 0, .int .i64 101]) (ret_vtel rfl rfl rfl (set_six HZ1.out HW1.out (Nat.le_refl _)).1) rfl ⟨none, 0, none, 0, rfl, VI.zero _, (set_six HZ1.out HW1.out (Nat.le_refl _)).2⟩

end Go.Proofs.YtmjmdfenkhmfbabDoor
