/- The program's Parse of texts that are no point's. -/
import Derived.Test.YtenncfohifekhaaDoorPParse
namespace Go.Proofs.YtenncfohifekhaaDoor
open Go.RowKit

set_option maxHeartbeats 4000000 in
set_option maxRecDepth 100000 in
theorem pparse_no (s : List UInt8) (hN : ∀ x y, ¬ Wr s x y) (w : World) (hE : EnvA w) (hl : s.length ≤ 281474976710656) :
    Calls Tryd.prog 21 #[txt s] w fun e w' => e = .returned (tv ⟨0, 0, 90⟩) ∧ Hid (Below w.heap.size w w') := by
  have HC := hid (fun W => cut_any s W hl)
  have hle := Lib.trimSuffix_le s [105]
  have hne : Lib.hasSuffix s [105] = true → s ≠ [] := has_ne
  obtain ⟨P, hP⟩ : ∃ P, P = Lib.trimSuffix s [105] := ⟨_, rfl⟩
  rw [← hP] at HC hle
  clear hP
  have HL := hid (fun W hV => last_any P W hV (by omega))
  have HA := hid (fun l W (h : l.length ≤ P.length) hV => atoi_any l W hV (by omega))
  have HP := hid (fun x y W hW => pprint_any x y W hW)
  have HE := hid hE
  have HZ1 := hid (heap_alloc_new w (pc 0 0))
  have HW1 := hid (below_alloc w (pc 0 0))
  have hlz : (P.length : Int) ≤ 281474976710656 := by omega
  cases hs : Lib.hasSuffix s [105] with
  | false =>
    rw [hs] at HC
    clear hs hne hN hle
    go_enter Tryd.func21, Tryd.ntmps21
    go_wp2_with fail
    refine (HC.out _).mono ?_; rintro e w1 ⟨rfl, hw⟩
    rw [hw]; clear hw w1
    go_wp2_with fail
    refine (HL.out _ (HE.out.below HW1.out).envs).mono ?_; rintro e w2 ⟨⟨k, rfl, _⟩, hh⟩
    have HZ2 := hid ((hh.out.block w.heap.size (by simp)).trans HZ1.out)
    have HW2 := hid (HW1.out.trans (hh.out.mono HW1.out.size))
    clear hh
    obtain ⟨⟨z0, z1⟩, g0, g1⟩ := pt_facts HZ2.out
    go_wp2_with fail
    refine bodyPost_ret (v := tv ⟨0, 0, 90⟩) ?_ rfl ?_
    · exact ret_tel rfl rfl rfl (heap_setCell_same _ w.heap.size 1 _ _ _ (heap_setCell_same _ w.heap.size 0 _ _ _ HZ2.out))
    · exact ⟨rfl, (HW2.out.setCell (p := ⟨w.heap.size, 0, none⟩) (by simp) _).setCell (p := ⟨w.heap.size, 1, none⟩) (by simp) _⟩
  | true =>
    rw [hs] at HC
    have HN : Hid (∀ x y, printP x y ≠ s) := fun x y => print_not (hne hs) hN
    clear hs hne hN hle
    go_enter Tryd.func21, Tryd.ntmps21
    go_wp2_with fail
    refine (HC.out _).mono ?_; rintro e w1 ⟨rfl, hw⟩
    rw [hw]; clear hw w1
    go_wp2_with fail
    refine (HL.out _ (HE.out.below HW1.out).envs).mono ?_; rintro e w2 ⟨⟨k, rfl, hk⟩, hh⟩
    obtain ⟨k0, k1, -⟩ := hk
    have HZ2 := hid ((hh.out.block w.heap.size (by simp)).trans HZ1.out)
    have HW2 := hid (HW1.out.trans (hh.out.mono HW1.out.size))
    clear hh
    by_cases hk0 : k < 0
    · obtain ⟨⟨z0, z1⟩, g0, g1⟩ := pt_facts HZ2.out
      go_wp2_with fail
      refine bodyPost_ret (v := tv ⟨0, 0, 90⟩) ?_ rfl ?_
      · exact ret_tel rfl rfl rfl (heap_setCell_same _ w.heap.size 1 _ _ _ (heap_setCell_same _ w.heap.size 0 _ _ _ HZ2.out))
      · exact ⟨rfl, (HW2.out.setCell (p := ⟨w.heap.size, 0, none⟩) (by simp) _).setCell (p := ⟨w.heap.size, 1, none⟩) (by simp) _⟩
    · obtain ⟨n, rfl⟩ := Int.eq_ofNat_of_zero_le (show 0 ≤ k by omega)
      have e1 := take_ba' P n
      have e2 := drop_ba P n
      have HA1 := hid (fun W hV => HA.out (P.take n) W (by simp; omega) hV)
      have HA2 := hid (fun W hV => HA.out (P.drop n) W (by simp) hV)
      generalize P.take n = X at *
      generalize P.drop n = Y at *
      clear HC HL HA
      have l3z : (n : Int) ≤ (P.length : Int) := by omega
      go_wp2_with fail
      refine (HA1.out _ (HE.out.below HW2.out)).mono ?_; rintro e w3 ⟨⟨u, hu⟩, hh⟩
      have HZ3 := hid ((hh.out.block w.heap.size (Array.getElem?_eq_some_iff.1 HZ2.out).1).trans HZ2.out)
      have HW3 := hid (HW2.out.trans (hh.out.mono HW2.out.size))
      clear hh
      obtain ⟨E1, rfl, hE1⟩ : ∃ E1, e = .returned (.tuple #[.int .i64 u, E1]) ∧ (E1 = .nilIface ∨ ∃ t p, E1 = .iface t p) := by
        rcases hu with rfl | ⟨t, p, rfl⟩
        · exact ⟨_, rfl, .inl rfl⟩
        · exact ⟨_, rfl, .inr ⟨t, p, rfl⟩⟩
      clear hu
      go_wp2_with fail
      refine (HA2.out _ (HE.out.below HW3.out)).mono ?_; rintro e w4 ⟨⟨v, hv⟩, hh⟩
      have HZ4 := hid ((hh.out.block w.heap.size (Array.getElem?_eq_some_iff.1 HZ3.out).1).trans HZ3.out)
      have HW4 := hid (HW3.out.trans (hh.out.mono HW3.out.size))
      have hz4 : w.heap.size < w4.heap.size := (Array.getElem?_eq_some_iff.1 HZ4.out).1
      clear hh
      obtain ⟨E2, rfl, hE2⟩ : ∃ E2, e = .returned (.tuple #[.int .i64 v, E2]) ∧ (E2 = .nilIface ∨ ∃ t p, E2 = .iface t p) := by
        rcases hv with rfl | ⟨t, p, rfl⟩
        · exact ⟨_, rfl, .inl rfl⟩
        · exact ⟨_, rfl, .inr ⟨t, p, rfl⟩⟩
      clear hv
      have HX5 := hid (pt_new w4 u v)
      have HW5 := hid (HW4.out.trans ((below_alloc w4 (pc u v)).mono HW4.out.size))
      have HZ5 := hid (((below_alloc w4 (pc u v)).block w.heap.size hz4).trans HZ4.out)
      obtain ⟨⟨z0, z1⟩, g0, g1⟩ := pt_facts HZ4.out
      have HR : Hid (∀ W, ((w4.setCell ⟨w.heap.size, 0, none⟩ (.int .i64 0)).setCell ⟨w.heap.size, 1, none⟩ (.int .i64 0)).alloc (pc u v) = W → W.heap[w.heap.size]? = some (.cells #[.int .i64 0, .int .i64 0] 23 (0, 0)) ∧ Below w.heap.size w W) := fun W hWW => by
        subst hWW
        refine ⟨(heap_alloc_old _ _ (by simp; omega)).trans (heap_setCell_same _ w.heap.size 1 _ _ _ (heap_setCell_same _ w.heap.size 0 _ _ _ HZ4.out)), ?_⟩
        have hs := (HW4.out.setCell (p := ⟨w.heap.size, 0, none⟩) (by simp) (.int .i64 0)).setCell (p := ⟨w.heap.size, 1, none⟩) (by simp) (.int .i64 0)
        exact hs.trans ((below_alloc _ _).mono hs.size)
      rcases hE1 with rfl | ⟨t1, p1, rfl⟩
      · rcases hE2 with rfl | ⟨t2, p2, rfl⟩
        · have HPu := hid (HP.out u v)
          have hnq := HN.out u v
          go_wp2_with fail
          refine (HPu.out _ (HE.out.below HW5.out).env).mono ?_; rintro e w6 ⟨rfl, hh⟩
          have HZ6 := hid ((hh.out.block w.heap.size (Array.getElem?_eq_some_iff.1 HZ5.out).1).trans HZ5.out)
          have HW6 := hid (HW5.out.trans (hh.out.mono HW5.out.size))
          clear hh z0 z1 g0 g1
          obtain ⟨⟨z0, z1⟩, g0, g1⟩ := pt_facts HZ6.out
          generalize printP u v = PR at *
          have hnb : (PR == s) = false := beq_eq_false_iff_ne.2 hnq
          clear hnq
          go_wp2_with fail
          refine bodyPost_ret (v := tv ⟨0, 0, 90⟩) ?_ rfl ?_
          · exact ret_tel rfl rfl rfl (heap_setCell_same _ w.heap.size 1 _ _ _ (heap_setCell_same _ w.heap.size 0 _ _ _ HZ6.out))
          · exact ⟨rfl, (HW6.out.setCell (p := ⟨w.heap.size, 0, none⟩) (by simp) _).setCell (p := ⟨w.heap.size, 1, none⟩) (by simp) _⟩
        · go_wp2_with fail
          refine bodyPost_ret (v := tv ⟨0, 0, 90⟩) (ret_tel rfl rfl rfl (HR.out _ rfl).1) rfl ⟨rfl, (HR.out _ rfl).2⟩
      · go_wp2_with fail
        refine bodyPost_ret (v := tv ⟨0, 0, 90⟩) (ret_tel rfl rfl rfl (HR.out _ rfl).1) rfl ⟨rfl, (HR.out _ rfl).2⟩

/-- Parse of any text -/
theorem pparse_any (s : List UInt8) (w : World) (hE : EnvA w) (hl : s.length ≤ 281474976710656) :
    Calls Tryd.prog 21 #[txt s] w fun e w' => e = .returned (tv (parseP s)) ∧ Hid (Below w.heap.size w w') := by
  rcases wr_or s with ⟨x, y, h⟩ | h
  · rw [parse_is h]; exact pparse_wr s x y h w hE
  · rw [parse_none h]; exact pparse_no s h w hE hl

end Go.Proofs.YtenncfohifekhaaDoor
