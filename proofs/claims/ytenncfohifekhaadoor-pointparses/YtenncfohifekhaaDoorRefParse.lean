/- The document's Parse. -/
import Derived.Test.YtenncfohifekhaaDoorRefPrint
import Derived.Test.YtenncfohifekhaaDoorParseP
namespace Go.Proofs.YtenncfohifekhaaDoor
open Go.RowKit

/-- a stretch up to the last byte -/
theorem mid_run (S : ByteArray) (a : Nat) (z : Int) (hz : z = (a : Int)) (h : a ≤ S.size - 1) (h1 : 1 ≤ S.size) (W : World) :
    (Instr.slice 9 (.string S) (some (.int .i64 z)) (some (.int .i64 ((S.size : Int) - 1))) none).run Tryd.prog W = .ok (.string (S.extract a (S.size - 1))) W := by
  have := run_slice_string (P := Tryd.prog) W 9 S .i64 .i64 z ((S.size : Int) - 1) Tryd.underlying9 (by omega) (by omega) (by omega)
  rwa [show z.toNat = a by omega, show ((S.size : Int) - 1).toNat = S.size - 1 by omega] at this
theorem ba_eta (B : ByteArray) : B = ⟨B.data.toList.toArray⟩ := rfl
theorem rWhole_ba (B : ByteArray) (w : World) (h : B.size ≤ 140737488351232) :
    Calls Tryd.prog 34 #[.string B] w fun e w' => (∃ (V : Int) (F : Bool), e = .returned (.tuple #[.int .i64 V, .bool F])) ∧ Hid (Below w.heap.size w w') := by
  have := rWhole_some B.data.toList w (by rw [← Lib.size_eq]; exact h)
  rwa [← ba_eta] at this
/-- where the real part of a writing ends -/
structure Ends (s : List UInt8) (x y : Int) (K : Nat) : Prop where
  pos : 1 ≤ K
  lt : K + 1 < s.length
  one : (⟨s.toArray⟩ : ByteArray).extract 0 K = ⟨(Lib.itoa x).toArray⟩
  plus : 0 ≤ y → s[K] = 43 ∧ (⟨s.toArray⟩ : ByteArray).extract (K + 1) (s.length - 1) = ⟨(Lib.itoa y).toArray⟩
  minus : y < 0 → s[K] = 45 ∧ (⟨s.toArray⟩ : ByteArray).extract K (s.length - 1) = ⟨(Lib.itoa y).toArray⟩
theorem ext_ba (l : List UInt8) (a b : Nat) : (⟨l.toArray⟩ : ByteArray).extract a b = ⟨((l.take b).drop a).toArray⟩ := by
  apply ByteArray.ext
  simp only [ByteArray.data_extract, List.extract_toArray, List.extract_eq_take_drop]
  rw [List.drop_take]
theorem ends_of {s : List UInt8} {x y : Int} (h : Wr s x y) : Ends s x y (Lib.itoa x).length ∧ 4 ≤ s.length ∧ s.length ≤ 30 := by
  obtain ⟨x0, x1, y0, y1⟩ := rt_iff.1 h.1
  have lx := part_len x0 x1
  have ly := part_len y0 y1
  have hs : s = Lib.itoa x ++ (signY y ++ [105]) := h.2.symm
  unfold signY at hs
  by_cases hy : y < 0
  · rw [if_pos hy] at hs
    have hd : ∃ r, Lib.itoa y = 45 :: r ∧ 1 ≤ r.length := by
      rw [itoa_parts, if_pos hy]
      refine ⟨_, rfl, ?_⟩
      have := dec_ne y.natAbs
      cases h : dec y.natAbs with
      | nil => exact absurd h this
      | cons a b => simp
    obtain ⟨r, hr, hr1⟩ := hd
    have hlen : s.length = (Lib.itoa x).length + (Lib.itoa y).length + 1 := by rw [hs]; simp; omega
    have hly : (Lib.itoa y).length = r.length + 1 := by rw [hr]; simp
    refine ⟨⟨by omega, by omega, ?_, fun h => by omega, fun _ => ⟨?_, ?_⟩⟩, by omega, by omega⟩
    · rw [ext_ba, hs]; simp
    · simp only [hs, hr]; simp
    · rw [ext_ba, hlen, hs]
      congr 2
      rw [show (Lib.itoa x).length + (Lib.itoa y).length + 1 - 1 = (Lib.itoa x).length + (Lib.itoa y).length by omega, ← List.append_assoc, List.take_append_of_le_length (by simp), List.take_of_length_le (by simp), List.drop_left]
  · rw [if_neg hy] at hs
    have hlen : s.length = (Lib.itoa x).length + (Lib.itoa y).length + 2 := by rw [hs]; simp; omega
    refine ⟨⟨by omega, by omega, ?_, fun _ => ⟨?_, ?_⟩, fun h => by omega⟩, by omega, by omega⟩
    · rw [ext_ba, hs]; simp
    · simp only [hs]; simp
    · rw [ext_ba, hlen, hs]
      congr 2
      rw [show Lib.itoa x ++ (43 :: Lib.itoa y ++ [105]) = (Lib.itoa x ++ [43] ++ Lib.itoa y) ++ [105] by simp, show (Lib.itoa x).length + (Lib.itoa y).length + 2 - 1 = (Lib.itoa x ++ [43] ++ Lib.itoa y).length by simp; omega, List.take_left, show (Lib.itoa x).length + 1 = (Lib.itoa x ++ [43]).length by simp, List.drop_left]

set_option maxHeartbeats 1000000 in
set_option maxRecDepth 100000 in
theorem rparse_size (s : List UInt8) (w : World) (h : ¬ (4 ≤ s.length ∧ s.length ≤ 30)) (hl : s.length ≤ 281474976710656) :
    Calls Tryd.prog 23 #[txt s] w fun e w' => e = .returned (tv ⟨0, 0, 90⟩) ∧ Hid (Below w.heap.size w w') := by
  have HZ := hid (heap_alloc_new w (pc 0 0))
  have HW := hid (below_alloc w (pc 0 0))
  obtain ⟨⟨z0, z1⟩, g0, g1⟩ := pt_facts HZ.out
  have hlz : (s.length : Int) ≤ 281474976710656 := by omega
  by_cases h4 : (s.length : Int) < 4
  · go_enter Tryd.func23, Tryd.ntmps23
    go_wp2_with fail
    refine bodyPost_ret (v := tv ⟨0, 0, 90⟩) (ret_tel rfl rfl rfl HZ.out) rfl ⟨rfl, HW.out⟩
  · have h30 : (30 : Int) < (s.length : Int) := by omega
    go_enter Tryd.func23, Tryd.ntmps23
    go_wp2_with fail
    refine bodyPost_ret (v := tv ⟨0, 0, 90⟩) (ret_tel rfl rfl rfl HZ.out) rfl ⟨rfl, HW.out⟩

set_option maxHeartbeats 4000000 in
set_option maxRecDepth 100000 in
/-- all places are tried -/
theorem rparse_loop (s : List UInt8) (T : Tel) (w : World) (h4 : 4 ≤ s.length) (h30 : s.length ≤ 30) (HQ : Hid (∀ u v, printP u v = s → T = ⟨u, v, 0⟩)) (K : Nat)
    (HK : Hid ((∃ x y, Wr s x y ∧ Ends s x y K) ∨ (T = ⟨0, 0, 90⟩ ∧ K = s.length))) :
    Calls Tryd.prog 23 #[txt s] w fun e w' => e = .returned (tv T) ∧ Hid (Below w.heap.size w w') := by
  obtain ⟨S, hS⟩ : ∃ S : ByteArray, S = ⟨s.toArray⟩ := ⟨_, rfl⟩
  have hsz : S.size = s.length := by rw [hS]; simp [ByteArray.size]
  have HS : Hid (S.size ≤ 30) := by rw [hsz]; exact h30
  have HI : Hid (∀ (i : Nat) (h : i < S.size) (h' : i < s.length), S[i]'h = s[i]'h') := fun i h h' => by subst hS; rfl
  have HEq := hid hS
  have HTl : Hid (S.toList = s) := by rw [hS, Lib.toList_data]; rfl
  have HP := hid (fun x y W => rprint_any x y W)
  have HZ0 := hid (heap_alloc_new w (pc 0 0))
  have HW0 := hid (below_alloc w (pc 0 0))
  have h4z : (4 : Int) ≤ (S.size : Int) := by omega
  have h30z : (S.size : Int) ≤ 30 := by omega
  have HL := hid hsz
  have htxt : txt s = .string S := by rw [hS]
  rw [htxt]
  clear hS hsz h4 h30 htxt
  go_enter Tryd.func23, Tryd.ntmps23
  go_wp2_with fail
  go_loopw [4, 5, 6, 7, 8, 9, 10] (fun v4 _ _ _ _ _ _ W => ∃ k : Nat, v4 = .int .i64 (k : Int) ∧ 1 ≤ k ∧ k ≤ S.size - 1 ∧ Hid (k ≤ K) ∧ W.heap[w.heap.size]? = some (.cells #[.int .i64 0, .int .i64 0] 23 (0, 0)) ∧ Hid (Below w.heap.size w W)) (fun v4 _ _ _ _ _ _ _ => S.size - (intOf v4).toNat)
  case atStart =>
    refine ⟨1, rfl, Nat.le_refl _, by omega, ?_, HZ0.out, HW0.out⟩
    show 1 ≤ K
    rcases HK.out with ⟨x, y, _, he⟩ | ⟨_, he⟩
    · exact he.pos
    · have := HL.out; omega
  case round =>
    obtain ⟨k, rfl, hk1, hk2, Hk, hz, HW⟩ := hrel
    have HZ := hid hz
    clear hz
    by_cases hlt : k < S.size - 1
    · have hltz : (k : Int) < (S.size : Int) - 1 := by omega
      have hks : k < s.length := by have := HL.out; omega
      have hkS : k < S.size := by omega
      have hx := HI.out k hkS hks
      by_cases hex : k = K ∧ K ≠ s.length
      · obtain ⟨hkK, hne⟩ := hex
        rcases HK.out with ⟨x, y, hwr, he⟩ | ⟨_, hb⟩
        · obtain ⟨x0, x1, y0, y1⟩ := rt_iff.1 hwr.1
          have hT := HQ.out x y hwr.print
          have HPr := hid (HP.out x y)
          rw [hwr.print] at HPr
          have hqb : (s == S.toList) = true := by rw [HTl.out]; exact beq_iff_eq.2 rfl
          have HWh1 : Hid (∀ W, Calls Tryd.prog 34 #[.string (S.extract 0 k)] W fun e w' => e = .returned (.tuple #[.int .i64 x, .bool true]) ∧ Hid (Below W.heap.size W w')) := fun W => by
            rw [HEq.out, hkK, he.one]; exact rWhole_is x W (by omega) (by omega)
          by_cases hy : y < 0
          · obtain ⟨c45, e2⟩ := he.minus hy
            have HWh2 : Hid (∀ W, Calls Tryd.prog 34 #[.string (S.extract k (S.size - 1))] W fun e w' => e = .returned (.tuple #[.int .i64 y, .bool true]) ∧ Hid (Below W.heap.size W w')) := fun W => by
              rw [HL.out, HEq.out, hkK, e2]; exact rWhole_is y W (by omega) (by omega)
            have e43 : (((S[k]'hkS).toNat : Int) == 43) = false := by
              rw [hx]
              have : s[k] = 45 := by simp only [hkK]; exact c45
              rw [this]; rfl
            have hsl := fun W => mid_run S k (k : Int) (by omega) (by omega) (by omega) W
            clear hx c45 e2 he hwr hkK hne
            go_wp2_with fail
            refine (HWh1.out _).mono ?_; rintro e w3 ⟨rfl, hh⟩
            have HZ3 := hid ((hh.out.block w.heap.size (Array.getElem?_eq_some_iff.1 HZ.out).1).trans HZ.out)
            have HW3 := hid (HW.out.trans (hh.out.mono HW.out.size))
            clear hh
            go_wp2_with fail
            refine (HWh2.out _).mono ?_; rintro e w4 ⟨rfl, hh⟩
            have HZ4 := hid ((hh.out.block w.heap.size (Array.getElem?_eq_some_iff.1 HZ3.out).1).trans HZ3.out)
            have HW4 := hid (HW3.out.trans (hh.out.mono HW3.out.size))
            have hz4 : w.heap.size < w4.heap.size := (Array.getElem?_eq_some_iff.1 HZ4.out).1
            clear hh
            have HX5 := hid (pt_new w4 x y)
            have HW5 := hid (HW4.out.trans ((below_alloc w4 (pc x y)).mono HW4.out.size))
            have HZ5 := hid (((below_alloc w4 (pc x y)).block w.heap.size hz4).trans HZ4.out)
            go_wp2_with fail
            refine (HPr.out _).mono ?_; rintro e w6 ⟨rfl, hh⟩
            have HX6 := hid ((hh.out.block w4.heap.size (by simp)).trans HX5.out)
            have HZ6 := hid ((hh.out.block w.heap.size (Array.getElem?_eq_some_iff.1 HZ5.out).1).trans HZ5.out)
            have HW6 := hid (HW5.out.trans (hh.out.mono HW5.out.size))
            clear hh
            obtain ⟨⟨a0, a1⟩, -⟩ := pt_facts HX6.out
            obtain ⟨⟨z0, z1⟩, g0, g1⟩ := pt_facts HZ6.out
            go_wp2_with fail
            refine bodyPost_ret (v := tv T) ?_ rfl ?_
            · rw [hT]; exact ret_tel rfl rfl rfl (heap_setCell_same _ w.heap.size 1 _ _ _ (heap_setCell_same _ w.heap.size 0 _ _ _ HZ6.out))
            · exact ⟨rfl, (HW6.out.setCell (p := ⟨w.heap.size, 0, none⟩) (by simp) _).setCell (p := ⟨w.heap.size, 1, none⟩) (by simp) _⟩
          · obtain ⟨c43, e2⟩ := he.plus (by omega)
            have HWh2 : Hid (∀ W, Calls Tryd.prog 34 #[.string (S.extract (k + 1) (S.size - 1))] W fun e w' => e = .returned (.tuple #[.int .i64 y, .bool true]) ∧ Hid (Below W.heap.size W w')) := fun W => by
              rw [HL.out, HEq.out, hkK, e2]; exact rWhole_is y W (by omega) (by omega)
            have e43 : (((S[k]'hkS).toNat : Int) == 43) = true := by
              rw [hx]
              have : s[k] = 43 := by simp only [hkK]; exact c43
              rw [this]; rfl
            have hsl := fun W => mid_run S (k + 1) ((k : Int) + 1) (by omega) (by omega) (by omega) W
            clear hx c43 e2 he hwr hkK hne
            go_wp2_with fail
            refine (HWh1.out _).mono ?_; rintro e w3 ⟨rfl, hh⟩
            have HZ3 := hid ((hh.out.block w.heap.size (Array.getElem?_eq_some_iff.1 HZ.out).1).trans HZ.out)
            have HW3 := hid (HW.out.trans (hh.out.mono HW.out.size))
            clear hh
            go_wp2_with fail
            refine (HWh2.out _).mono ?_; rintro e w4 ⟨rfl, hh⟩
            have HZ4 := hid ((hh.out.block w.heap.size (Array.getElem?_eq_some_iff.1 HZ3.out).1).trans HZ3.out)
            have HW4 := hid (HW3.out.trans (hh.out.mono HW3.out.size))
            have hz4 : w.heap.size < w4.heap.size := (Array.getElem?_eq_some_iff.1 HZ4.out).1
            clear hh
            have HX5 := hid (pt_new w4 x y)
            have HW5 := hid (HW4.out.trans ((below_alloc w4 (pc x y)).mono HW4.out.size))
            have HZ5 := hid (((below_alloc w4 (pc x y)).block w.heap.size hz4).trans HZ4.out)
            go_wp2_with fail
            refine (HPr.out _).mono ?_; rintro e w6 ⟨rfl, hh⟩
            have HX6 := hid ((hh.out.block w4.heap.size (by simp)).trans HX5.out)
            have HZ6 := hid ((hh.out.block w.heap.size (Array.getElem?_eq_some_iff.1 HZ5.out).1).trans HZ5.out)
            have HW6 := hid (HW5.out.trans (hh.out.mono HW5.out.size))
            clear hh
            obtain ⟨⟨a0, a1⟩, -⟩ := pt_facts HX6.out
            obtain ⟨⟨z0, z1⟩, g0, g1⟩ := pt_facts HZ6.out
            go_wp2_with fail
            refine bodyPost_ret (v := tv T) ?_ rfl ?_
            · rw [hT]; exact ret_tel rfl rfl rfl (heap_setCell_same _ w.heap.size 1 _ _ _ (heap_setCell_same _ w.heap.size 0 _ _ _ HZ6.out))
            · exact ⟨rfl, (HW6.out.setCell (p := ⟨w.heap.size, 0, none⟩) (by simp) _).setCell (p := ⟨w.heap.size, 1, none⟩) (by simp) _⟩
        · exact absurd hb hne
      · have HNx : Hid (k + 1 ≤ K) := by
          have h1 := Hk.out
          show k + 1 ≤ K
          by_cases hkk : k = K
          · exact absurd ⟨hkk, by omega⟩ hex
          · omega
        clear hex
        by_cases c43 : s[k] = 43
        · have e43 : (((S[k]'hkS).toNat : Int) == 43) = true := by rw [hx, c43]; rfl
          clear c43 hx
          have HWh1 := hid (fun W => rWhole_ba (S.extract 0 k) W (by have := HS.out; simp [ByteArray.size_extract]; omega))
          have HWh2 := hid (fun W => rWhole_ba (S.extract (k + 1) (S.size - 1)) W (by have := HS.out; simp [ByteArray.size_extract]; omega))
          have hsl := fun W => mid_run S (k + 1) ((k : Int) + 1) (by omega) (by omega) (by omega) W
          go_wp2_with fail
          refine (HWh1.out _).mono ?_; rintro e w3 ⟨⟨u, F1, rfl⟩, hh⟩
          have HZ3 := hid ((hh.out.block w.heap.size (Array.getElem?_eq_some_iff.1 HZ.out).1).trans HZ.out)
          have HW3 := hid (HW.out.trans (hh.out.mono HW.out.size))
          clear hh
          go_wp2_with fail
          refine (HWh2.out _).mono ?_; rintro e w4 ⟨⟨v, F2, rfl⟩, hh⟩
          have HZ4 := hid ((hh.out.block w.heap.size (Array.getElem?_eq_some_iff.1 HZ3.out).1).trans HZ3.out)
          have HW4 := hid (HW3.out.trans (hh.out.mono HW3.out.size))
          have hz4 : w.heap.size < w4.heap.size := (Array.getElem?_eq_some_iff.1 HZ4.out).1
          clear hh
          have HX5 := hid (pt_new w4 u v)
          have HW5 := hid (HW4.out.trans ((below_alloc w4 (pc u v)).mono HW4.out.size))
          have HZ5 := hid (((below_alloc w4 (pc u v)).block w.heap.size hz4).trans HZ4.out)
          cases F1 with
          | false =>
            go_wp2_with fail
            exact ⟨⟨k + 1, by go_num, by omega, by omega, HNx.out, HZ5.out, HW5.out⟩, by simp [intOf]; omega⟩
          | true =>
            cases F2 with
            | false =>
              go_wp2_with fail
              exact ⟨⟨k + 1, by go_num, by omega, by omega, HNx.out, HZ5.out, HW5.out⟩, by simp [intOf]; omega⟩
            | true =>
              have HPu := hid (HP.out u v)
              have HQu := hid (HQ.out u v)
              generalize printP u v = PR at *
              go_wp2_with fail
              refine (HPu.out _).mono ?_; rintro e w6 ⟨rfl, hh⟩
              have HX6 := hid ((hh.out.block w4.heap.size (by simp)).trans HX5.out)
              have HZ6 := hid ((hh.out.block w.heap.size (Array.getElem?_eq_some_iff.1 HZ5.out).1).trans HZ5.out)
              have HW6 := hid (HW5.out.trans (hh.out.mono HW5.out.size))
              clear hh
              by_cases hq : PR = s
              · have hqb : (PR == S.toList) = true := by rw [HTl.out]; exact beq_iff_eq.2 hq
                have hT := HQu.out hq
                clear hq
                obtain ⟨⟨a0, a1⟩, -⟩ := pt_facts HX6.out
                obtain ⟨⟨z0, z1⟩, g0, g1⟩ := pt_facts HZ6.out
                go_wp2_with fail
                refine bodyPost_ret (v := tv T) ?_ rfl ?_
                · rw [hT]; exact ret_tel rfl rfl rfl (heap_setCell_same _ w.heap.size 1 _ _ _ (heap_setCell_same _ w.heap.size 0 _ _ _ HZ6.out))
                · exact ⟨rfl, (HW6.out.setCell (p := ⟨w.heap.size, 0, none⟩) (by simp) _).setCell (p := ⟨w.heap.size, 1, none⟩) (by simp) _⟩
              · have hqb : (PR == S.toList) = false := by rw [HTl.out]; exact beq_eq_false_iff_ne.2 hq
                clear hq
                go_wp2_with fail
                exact ⟨⟨k + 1, by go_num, by omega, by omega, HNx.out, HZ6.out, HW6.out⟩, by simp [intOf]; omega⟩
        · have e43 : (((S[k]'hkS).toNat : Int) == 43) = false := by
            rw [hx]
            exact beq_eq_false_iff_ne.2 fun e2 => c43 (UInt8.toNat_inj.1 (by simp; omega))
          clear c43 hx
          have HWh1 := hid (fun W => rWhole_ba (S.extract 0 k) W (by have := HS.out; simp [ByteArray.size_extract]; omega))
          have HWh2 := hid (fun W => rWhole_ba (S.extract k (S.size - 1)) W (by have := HS.out; simp [ByteArray.size_extract]; omega))
          have hsl := fun W => mid_run S k (k : Int) (by omega) (by omega) (by omega) W
          go_wp2_with fail
          refine (HWh1.out _).mono ?_; rintro e w3 ⟨⟨u, F1, rfl⟩, hh⟩
          have HZ3 := hid ((hh.out.block w.heap.size (Array.getElem?_eq_some_iff.1 HZ.out).1).trans HZ.out)
          have HW3 := hid (HW.out.trans (hh.out.mono HW.out.size))
          clear hh
          go_wp2_with fail
          refine (HWh2.out _).mono ?_; rintro e w4 ⟨⟨v, F2, rfl⟩, hh⟩
          have HZ4 := hid ((hh.out.block w.heap.size (Array.getElem?_eq_some_iff.1 HZ3.out).1).trans HZ3.out)
          have HW4 := hid (HW3.out.trans (hh.out.mono HW3.out.size))
          have hz4 : w.heap.size < w4.heap.size := (Array.getElem?_eq_some_iff.1 HZ4.out).1
          clear hh
          have HX5 := hid (pt_new w4 u v)
          have HW5 := hid (HW4.out.trans ((below_alloc w4 (pc u v)).mono HW4.out.size))
          have HZ5 := hid (((below_alloc w4 (pc u v)).block w.heap.size hz4).trans HZ4.out)
          cases F1 with
          | false =>
            go_wp2_with fail
            exact ⟨⟨k + 1, by go_num, by omega, by omega, HNx.out, HZ5.out, HW5.out⟩, by simp [intOf]; omega⟩
          | true =>
            cases F2 with
            | false =>
              go_wp2_with fail
              exact ⟨⟨k + 1, by go_num, by omega, by omega, HNx.out, HZ5.out, HW5.out⟩, by simp [intOf]; omega⟩
            | true =>
              have HPu := hid (HP.out u v)
              have HQu := hid (HQ.out u v)
              generalize printP u v = PR at *
              go_wp2_with fail
              refine (HPu.out _).mono ?_; rintro e w6 ⟨rfl, hh⟩
              have HX6 := hid ((hh.out.block w4.heap.size (by simp)).trans HX5.out)
              have HZ6 := hid ((hh.out.block w.heap.size (Array.getElem?_eq_some_iff.1 HZ5.out).1).trans HZ5.out)
              have HW6 := hid (HW5.out.trans (hh.out.mono HW5.out.size))
              clear hh
              by_cases hq : PR = s
              · have hqb : (PR == S.toList) = true := by rw [HTl.out]; exact beq_iff_eq.2 hq
                have hT := HQu.out hq
                clear hq
                obtain ⟨⟨a0, a1⟩, -⟩ := pt_facts HX6.out
                obtain ⟨⟨z0, z1⟩, g0, g1⟩ := pt_facts HZ6.out
                go_wp2_with fail
                refine bodyPost_ret (v := tv T) ?_ rfl ?_
                · rw [hT]; exact ret_tel rfl rfl rfl (heap_setCell_same _ w.heap.size 1 _ _ _ (heap_setCell_same _ w.heap.size 0 _ _ _ HZ6.out))
                · exact ⟨rfl, (HW6.out.setCell (p := ⟨w.heap.size, 0, none⟩) (by simp) _).setCell (p := ⟨w.heap.size, 1, none⟩) (by simp) _⟩
              · have hqb : (PR == S.toList) = false := by rw [HTl.out]; exact beq_eq_false_iff_ne.2 hq
                clear hq
                go_wp2_with fail
                exact ⟨⟨k + 1, by go_num, by omega, by omega, HNx.out, HZ6.out, HW6.out⟩, by simp [intOf]; omega⟩
    · have hgez : (S.size : Int) - 1 ≤ (k : Int) := by omega
      have hT : T = ⟨0, 0, 90⟩ := by
        rcases HK.out with ⟨x, y, _, he⟩ | ⟨hb, _⟩
        · have h1 := he.lt
          have h2 := Hk.out
          have h3 := HL.out
          omega
        · exact hb
      obtain ⟨⟨z0, z1⟩, g0, g1⟩ := pt_facts HZ.out
      go_wp2_with fail
      refine bodyPost_ret (v := tv T) ?_ rfl ?_
      · rw [hT]; exact ret_tel rfl rfl rfl (heap_setCell_same _ w.heap.size 1 _ _ _ (heap_setCell_same _ w.heap.size 0 _ _ _ HZ.out))
      · exact ⟨rfl, (HW.out.setCell (p := ⟨w.heap.size, 0, none⟩) (by simp) _).setCell (p := ⟨w.heap.size, 1, none⟩) (by simp) _⟩
/-- ref Parse of any text -/
theorem rparse_any (s : List UInt8) (w : World) (hl : s.length ≤ 281474976710656) :
    Calls Tryd.prog 23 #[txt s] w fun e w' => e = .returned (tv (parseP s)) ∧ Hid (Below w.heap.size w w') := by
  rcases wr_or s with ⟨x, y, h⟩ | h
  · obtain ⟨he, h4, h30⟩ := ends_of h
    refine rparse_loop s (parseP s) w h4 h30 (fun u v hp => ?_) (Lib.itoa x).length (.inl ⟨x, y, h, he⟩)
    exact parse_is (print_wr (fun e => by rw [e] at h4; simp at h4) hp)
  · by_cases hs : 4 ≤ s.length ∧ s.length ≤ 30
    · refine rparse_loop s (parseP s) w hs.1 hs.2 (fun u v hp => ?_) s.length (.inr ⟨parse_none h, rfl⟩)
      exact absurd (print_wr (fun e => by rw [e] at hs; simp at hs) hp) (h u v)
    · rw [parse_none h]; exact rparse_size s w hs hl

end Go.Proofs.YtenncfohifekhaaDoor
