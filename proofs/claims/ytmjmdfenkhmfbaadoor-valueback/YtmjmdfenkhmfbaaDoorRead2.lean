/- The document's read, of all kinds but hashes. -/
import Derived.Test.YtmjmdfenkhmfbaaDoorRead1
namespace Go.Proofs.YtmjmdfenkhmfbaaDoor
open Go.RowKit

set_option maxHeartbeats 4000000 in
set_option maxRecDepth 100000 in
theorem read_x (a : UInt8) (b c : UInt8) (r : Nm) (w : World) (hs : r.length ≤ 281474976710000) (h1 : a ≠ 1) (h2 : a ≠ 2) (h3 : a ≠ 3) (h4 : a ≠ 4) (h5 : a ≠ 5) :
    Calls Tryd.prog 41 #[txt (a :: b :: c :: r)] w fun e w' => ∃ pp pc' ip ic, e = .returned (vv (readV (a :: b :: c :: r)) pp pc' ip ic) ∧ Hid (VI w' (readV (a :: b :: c :: r)) pp pc' ip ic ∧ Fr w.heap.size pp ip ∧ Below w.heap.size w w') := by
  obtain ⟨M, hM⟩ : ∃ M, M = readV (a :: b :: c :: r) := ⟨_, rfl⟩
  rw [← hM]
  have hM : M = ⟨(a.toNat : Int), [], [], [], 0, 0⟩ := by
    rw [hM]
    show (if a = 1 then _ else if a = 2 then _ else if a = 3 ∨ a = 4 then _ else if a = 5 then _ else _) = _
    rw [if_neg h1, if_neg h2, if_neg (by simp [h3, h4]), if_neg h5]
  obtain ⟨s, hsd⟩ : ∃ s : Nm, s = a :: b :: c :: r := ⟨_, rfl⟩
  rw [← hsd]
  have hlen : s.length = r.length + 3 := by rw [hsd]; rfl
  have HAt := hid (fun W => at_any s 1 W (by omega) (by decide))
  rw [at2_is (by omega), show s.getD 1 0 = b by rw [hsd]; rfl, show s.getD (1 + 1) 0 = c by rw [hsd]; rfl] at HAt
  have hB0 : ((((⟨s.toArray⟩ : ByteArray)[0]'(by simp [ByteArray.size]; omega)).toNat : Nat) : Int) = (a.toNat : Int) := by subst hsd; rfl
  have hsz : (s.length : Int) ≤ 281474976710656 := by omega
  have h0z : (0 : Int) < (s.length : Int) := by omega
  have hnl := num2_lt b c
  obtain ⟨n, hn⟩ : ∃ n, n = num2 b c := ⟨_, rfl⟩
  rw [← hn] at HAt hnl
  have HA := hid (al_two w (vob zeroV none 0 none 0) (vob ⟨(a.toNat : Int), [], [], [], 0, 0⟩ none 0 none 0))
  have x0 : (a.toNat : Int) < 256 := by have := a.toNat_lt; omega
  have x1 : (0 : Int) ≤ (a.toNat : Int) := by omega
  have ne : ∀ z : UInt8, a ≠ z → ((a.toNat : Int) == (z.toNat : Int)) = false := fun z hz => beq_eq_false_iff_ne.2 fun e => hz (UInt8.toNat_inj.1 (by omega))
  have b1 : ((a.toNat : Int) == 1) = false := ne 1 h1
  have b2 : ((a.toNat : Int) == 2) = false := ne 2 h2
  have b3 : ((a.toNat : Int) == 3) = false := ne 3 h3
  have b4 : ((a.toNat : Int) == 4) = false := ne 4 h4
  have b5 : ((a.toNat : Int) == 5) = false := ne 5 h5
  clear ne h1 h2 h3 h4 h5 hsd hn
  generalize (a.toNat : Int) = X at *
  go_enter Tryd.func41, Tryd.ntmps41
  go_wp2_with fail
  refine (HAt.out _).mono ?_; rintro e w1 ⟨rfl, hh⟩
  have HZ := hid ((hh.out.block w.heap.size (by simp; omega)).trans HA.out.2.1)
  have HY := hid ((hh.out.block (w.heap.size + 1) (by simp)).trans HA.out.2.2.1)
  have HW := hid (HA.out.1.trans (hh.out.mono HA.out.1.size))
  clear hh
  obtain ⟨c0, c1, c2, c3, c4, c5⟩ := val_facts HZ.out
  obtain ⟨g0, g1, g2, g3, g4, g5⟩ := val_frozen HZ.out
  obtain ⟨d0, d1, d2, d3, d4, d5⟩ := val_facts HY.out
  obtain ⟨e0, e1, e2, e3, e4, e5⟩ := val_frozen HY.out
  go_wp2_with fail
  refine bodyPost_ret (v := vv M none 0 none 0) ?_ rfl ?_
  · rw [hM]; exact ret_val rfl rfl (set_six HZ.out HW.out (Nat.le_refl _)).1
  · exact ⟨none, 0, none, 0, rfl, by rw [hM]; exact ⟨Rp.nilRow _, Rd.nilRow _⟩, Fr.none _, (set_six HZ.out HW.out (Nat.le_refl _)).2⟩
set_option maxHeartbeats 4000000 in
set_option maxRecDepth 100000 in
theorem read_1 (b c : UInt8) (r : Nm) (w : World) (hs : r.length ≤ 281474976710000) :
    Calls Tryd.prog 41 #[txt (1 :: b :: c :: r)] w fun e w' => ∃ pp pc' ip ic, e = .returned (vv (readV (1 :: b :: c :: r)) pp pc' ip ic) ∧ Hid (VI w' (readV (1 :: b :: c :: r)) pp pc' ip ic ∧ Fr w.heap.size pp ip ∧ Below w.heap.size w w') := by
  obtain ⟨M, hM⟩ : ∃ M, M = readV (1 :: b :: c :: r) := ⟨_, rfl⟩
  rw [← hM]
  have hM : M = ⟨1, (lst (rdT (b :: c :: r) 1)).headD [], [], [], 0, 0⟩ := by rw [hM]; rfl
  obtain ⟨s, hsd⟩ : ∃ s : Nm, s = 1 :: b :: c :: r := ⟨_, rfl⟩
  rw [← hsd]
  have hlen : s.length = r.length + 3 := by rw [hsd]; rfl
  have HAt := hid (fun W => at_any s 1 W (by omega) (by decide))
  rw [at2_is (by omega), show s.getD 1 0 = b by rw [hsd]; rfl, show s.getD (1 + 1) 0 = c by rw [hsd]; rfl] at HAt
  have hB0 : ((((⟨s.toArray⟩ : ByteArray)[0]'(by simp [ByteArray.size]; omega)).toNat : Nat) : Int) = 1 := by subst hsd; rfl
  have hsz : (s.length : Int) ≤ 281474976710656 := by omega
  have h0z : (0 : Int) < (s.length : Int) := by omega
  have hnl := num2_lt b c
  obtain ⟨n, hn⟩ : ∃ n, n = num2 b c := ⟨_, rfl⟩
  rw [← hn] at HAt hnl
  have HA := hid (al_two w (vob zeroV none 0 none 0) (vob ⟨1, [], [], [], 0, 0⟩ none 0 none 0))
  have HT := hid (fun W => texts_any s 1 1 W (by omega) (by omega) (by omega) (by omega))
  rw [show s.drop 1 = b :: c :: r by rw [hsd]; rfl] at HT
  clear hsd hn
  cases hr : rdT (b :: c :: r) 1 with
  | none =>
    rw [hr] at HT hM
    have hM : M = ⟨1, [], [], [], 0, 0⟩ := hM
    go_enter Tryd.func41, Tryd.ntmps41
    go_wp2_with fail
    refine (HAt.out _).mono ?_; rintro e w1 ⟨rfl, hh⟩
    have HZ := hid ((hh.out.block w.heap.size (by simp; omega)).trans HA.out.2.1)
    have HY := hid ((hh.out.block (w.heap.size + 1) (by simp)).trans HA.out.2.2.1)
    have HW := hid (HA.out.1.trans (hh.out.mono HA.out.1.size))
    clear hh
    obtain ⟨c0, c1, c2, c3, c4, c5⟩ := val_facts HZ.out
    obtain ⟨g0, g1, g2, g3, g4, g5⟩ := val_frozen HZ.out
    obtain ⟨d0, d1, d2, d3, d4, d5⟩ := val_facts HY.out
    obtain ⟨e0, e1, e2, e3, e4, e5⟩ := val_frozen HY.out
    go_wp2_with fail
    refine (HT.out _).mono ?_; rintro e w2 ⟨q, d, z, rfl, hh⟩
    have hz : ¬ 0 < z := fun h => by have := hh.out.2.1.1 h; simp at this
    have HZ2 := hid ((hh.out.2.2.block w.heap.size (Array.getElem?_eq_some_iff.1 HZ.out).1).trans HZ.out)
    have HY2 := hid ((hh.out.2.2.block (w.heap.size + 1) (Array.getElem?_eq_some_iff.1 HY.out).1).trans HY.out)
    have HW2 := hid (HW.out.trans (hh.out.2.2.mono HW.out.size))
    clear hh c0 c1 c2 c3 c4 c5 g0 g1 g2 g3 g4 g5 d0 d1 d2 d3 d4 d5 e0 e1 e2 e3 e4 e5
    obtain ⟨c0, c1, c2, c3, c4, c5⟩ := val_facts HZ2.out
    obtain ⟨g0, g1, g2, g3, g4, g5⟩ := val_frozen HZ2.out
    obtain ⟨d0, d1, d2, d3, d4, d5⟩ := val_facts HY2.out
    go_wp2_with fail
    refine bodyPost_ret (v := vv M none 0 none 0) ?_ rfl ?_
    · rw [hM]; exact ret_val rfl rfl (set_six HZ2.out HW2.out (Nat.le_refl _)).1
    · exact ⟨none, 0, none, 0, rfl, by rw [hM]; exact ⟨Rp.nilRow _, Rd.nilRow _⟩, Fr.none _, (set_six HZ2.out HW2.out (Nat.le_refl _)).2⟩
  | some P =>
    obtain ⟨L, R⟩ := P
    have hl := rdT_len 1 _ L R hr
    obtain ⟨t, rfl⟩ : ∃ t, L = [t] := List.length_eq_one_iff.1 hl.1
    rw [hr] at HT hM
    rw [show lst (some ([t], R)) = [t] from rfl, show ([t] : Row).length = 1 from rfl] at HT
    have hM : M = ⟨1, t, [], [], 0, 0⟩ := hM
    clear hl
    go_enter Tryd.func41, Tryd.ntmps41
    go_wp2_with fail
    refine (HAt.out _).mono ?_; rintro e w1 ⟨rfl, hh⟩
    have HZ := hid ((hh.out.block w.heap.size (by simp; omega)).trans HA.out.2.1)
    have HY := hid ((hh.out.block (w.heap.size + 1) (by simp)).trans HA.out.2.2.1)
    have HW := hid (HA.out.1.trans (hh.out.mono HA.out.1.size))
    clear hh
    obtain ⟨c0, c1, c2, c3, c4, c5⟩ := val_facts HZ.out
    obtain ⟨g0, g1, g2, g3, g4, g5⟩ := val_frozen HZ.out
    obtain ⟨d0, d1, d2, d3, d4, d5⟩ := val_facts HY.out
    obtain ⟨e0, e1, e2, e3, e4, e5⟩ := val_frozen HY.out
    have hwb : w.heap.size + 1 < w1.heap.size := (Array.getElem?_eq_some_iff.1 HY.out).1
    go_wp2_with fail
    refine (HT.out _).mono ?_; rintro e w2 ⟨q, d, z, rfl, hh⟩
    have hz : 0 < z := hh.out.2.1.2 rfl
    have HZ2 := hid ((hh.out.2.2.block w.heap.size (Array.getElem?_eq_some_iff.1 HZ.out).1).trans HZ.out)
    have HY2 := hid ((hh.out.2.2.block (w.heap.size + 1) (Array.getElem?_eq_some_iff.1 HY.out).1).trans HY.out)
    have HW2 := hid (HW.out.trans (hh.out.2.2.mono HW.out.size))
    have ho : Own w1.heap.size w2 (.slice q 1 d) [t] := hh.out.1
    obtain ⟨gb, go, hq, hcs⟩ := ho.rd.strs (by simp)
    have y0 := hcs 0 (by simp)
    subst hq
    simp only [List.getElem_cons_zero, Nat.add_zero] at y0
    clear hh hcs ho c0 c1 c2 c3 c4 c5 g0 g1 g2 g3 g4 g5 d0 d1 d2 d3 d4 d5 e0 e1 e2 e3 e4 e5
    obtain ⟨d0, d1, d2, d3, d4, d5⟩ := val_facts HY2.out
    obtain ⟨e0, e1, e2, e3, e4, e5⟩ := val_frozen HY2.out
    have HY3 := hid (heap_setCell_same w2 (w.heap.size + 1) 1 _ _ (txt t) HY2.out)
    have HZ3 := hid ((heap_setCell_other w2 ⟨w.heap.size + 1, 1, none⟩ w.heap.size (txt t) (by simp)).trans HZ2.out)
    have HW3 := hid (HW2.out.setCell (p := ⟨w.heap.size + 1, 1, none⟩) (by simp) (txt t))
    obtain ⟨c0, c1, c2, c3, c4, c5⟩ := val_facts HZ3.out
    obtain ⟨g0, g1, g2, g3, g4, g5⟩ := val_frozen HZ3.out
    go_wp2_with fail
    refine bodyPost_ret (v := vv M none 0 none 0) ?_ rfl ?_
    · rw [hM]; exact ret_val rfl rfl (set_six HZ3.out HW3.out (Nat.le_refl _)).1
    · exact ⟨none, 0, none, 0, rfl, by rw [hM]; exact ⟨Rp.nilRow _, Rd.nilRow _⟩, Fr.none _, (set_six HZ3.out HW3.out (Nat.le_refl _)).2⟩
set_option maxHeartbeats 4000000 in
set_option maxRecDepth 100000 in
theorem read_3 (b c : UInt8) (r : Nm) (w : World) (hs : r.length ≤ 281474976710000) :
    Calls Tryd.prog 41 #[txt (3 :: b :: c :: r)] w fun e w' => ∃ pp pc' ip ic, e = .returned (vv (readV (3 :: b :: c :: r)) pp pc' ip ic) ∧ Hid (VI w' (readV (3 :: b :: c :: r)) pp pc' ip ic ∧ Fr w.heap.size pp ip ∧ Below w.heap.size w w') := by
  obtain ⟨M, hM⟩ : ∃ M, M = readV (3 :: b :: c :: r) := ⟨_, rfl⟩
  rw [← hM]
  have hM : M = ⟨3, [], [], if 256 < num2 b c then [] else lst (rdT r (num2 b c)), 0, 0⟩ := by rw [hM]; rfl
  obtain ⟨s, hsd⟩ : ∃ s : Nm, s = 3 :: b :: c :: r := ⟨_, rfl⟩
  rw [← hsd]
  have hlen : s.length = r.length + 3 := by rw [hsd]; rfl
  have HAt := hid (fun W => at_any s 1 W (by omega) (by decide))
  rw [at2_is (by omega), show s.getD 1 0 = b by rw [hsd]; rfl, show s.getD (1 + 1) 0 = c by rw [hsd]; rfl] at HAt
  have hB0 : ((((⟨s.toArray⟩ : ByteArray)[0]'(by simp [ByteArray.size]; omega)).toNat : Nat) : Int) = 3 := by subst hsd; rfl
  have hsz : (s.length : Int) ≤ 281474976710656 := by omega
  have h0z : (0 : Int) < (s.length : Int) := by omega
  have hnl := num2_lt b c
  obtain ⟨n, hn⟩ : ∃ n, n = num2 b c := ⟨_, rfl⟩
  rw [← hn] at HAt hnl
  have HA := hid (al_two w (vob zeroV none 0 none 0) (vob ⟨3, [], [], [], 0, 0⟩ none 0 none 0))
  rw [← hn] at hM
  have hd3 : s.drop 3 = r := by rw [hsd]; rfl
  clear hsd hn
  by_cases hbig : 256 < n
  · rw [if_pos hbig] at hM
    have hbz : (256 : Int) < (n : Int) := by omega
    go_enter Tryd.func41, Tryd.ntmps41
    go_wp2_with fail
    refine (HAt.out _).mono ?_; rintro e w1 ⟨rfl, hh⟩
    have HZ := hid ((hh.out.block w.heap.size (by simp; omega)).trans HA.out.2.1)
    have HY := hid ((hh.out.block (w.heap.size + 1) (by simp)).trans HA.out.2.2.1)
    have HW := hid (HA.out.1.trans (hh.out.mono HA.out.1.size))
    clear hh
    obtain ⟨c0, c1, c2, c3, c4, c5⟩ := val_facts HZ.out
    obtain ⟨g0, g1, g2, g3, g4, g5⟩ := val_frozen HZ.out
    obtain ⟨d0, d1, d2, d3, d4, d5⟩ := val_facts HY.out
    obtain ⟨e0, e1, e2, e3, e4, e5⟩ := val_frozen HY.out
    go_wp2_with fail
    refine bodyPost_ret (v := vv M none 0 none 0) ?_ rfl ?_
    · rw [hM]; exact ret_val rfl rfl (set_six HZ.out HW.out (Nat.le_refl _)).1
    · exact ⟨none, 0, none, 0, rfl, by rw [hM]; exact ⟨Rp.nilRow _, Rd.nilRow _⟩, Fr.none _, (set_six HZ.out HW.out (Nat.le_refl _)).2⟩
  · rw [if_neg hbig] at hM
    have hbz : (n : Int) ≤ 256 := by omega
    have HT := hid (fun W => texts_any s 3 n W (by omega) (by omega) (by omega) (by omega))
    rw [hd3] at HT
    generalize lst (rdT r n) = L at *
    clear hbig
    go_enter Tryd.func41, Tryd.ntmps41
    go_wp2_with fail
    refine (HAt.out _).mono ?_; rintro e w1 ⟨rfl, hh⟩
    have HZ := hid ((hh.out.block w.heap.size (by simp; omega)).trans HA.out.2.1)
    have HY := hid ((hh.out.block (w.heap.size + 1) (by simp)).trans HA.out.2.2.1)
    have HW := hid (HA.out.1.trans (hh.out.mono HA.out.1.size))
    clear hh
    obtain ⟨c0, c1, c2, c3, c4, c5⟩ := val_facts HZ.out
    obtain ⟨g0, g1, g2, g3, g4, g5⟩ := val_frozen HZ.out
    obtain ⟨d0, d1, d2, d3, d4, d5⟩ := val_facts HY.out
    obtain ⟨e0, e1, e2, e3, e4, e5⟩ := val_frozen HY.out
    have hwb : w.heap.size + 1 < w1.heap.size := (Array.getElem?_eq_some_iff.1 HY.out).1
    go_wp2_with fail
    refine (HT.out _).mono ?_; rintro e w2 ⟨q, d, z, rfl, hh⟩
    have HZ2 := hid ((hh.out.2.2.block w.heap.size (Array.getElem?_eq_some_iff.1 HZ.out).1).trans HZ.out)
    have HY2 := hid ((hh.out.2.2.block (w.heap.size + 1) (Array.getElem?_eq_some_iff.1 HY.out).1).trans HY.out)
    have HW2 := hid (HW.out.trans (hh.out.2.2.mono HW.out.size))
    have HO2 := hid hh.out.1
    clear hh c0 c1 c2 c3 c4 c5 g0 g1 g2 g3 g4 g5 d0 d1 d2 d3 d4 d5 e0 e1 e2 e3 e4 e5
    obtain ⟨d0, d1, d2, d3, d4, d5⟩ := val_facts HY2.out
    obtain ⟨e0, e1, e2, e3, e4, e5⟩ := val_frozen HY2.out
    have HZ3 := hid ((heap_setCell_other w2 ⟨w.heap.size + 1, 3, none⟩ w.heap.size (.slice q L.length d) (by simp)).trans HZ2.out)
    have HW3 := hid (HW2.out.setCell (p := ⟨w.heap.size + 1, 3, none⟩) (by simp) (.slice q L.length d))
    have HO3 := hid (own_set HO2.out (w.heap.size + 1) 3 (.slice q L.length d) hwb)
    obtain ⟨c0, c1, c2, c3, c4, c5⟩ := val_facts HZ3.out
    obtain ⟨g0, g1, g2, g3, g4, g5⟩ := val_frozen HZ3.out
    go_wp2_with fail
    refine bodyPost_ret (v := vv M none 0 q d) ?_ rfl ?_
    · rw [hM]; exact ret_val rfl rfl (set_six HZ3.out HW3.out (Nat.le_refl _)).1
    · exact ⟨none, 0, q, d, rfl, by rw [hM]; exact ⟨Rp.nilRow _, (own_set6 HO3.out w.heap.size (by omega) _ _ _ _ _ _).rd⟩, ⟨(fun _ h => by cases h), fun a e => Nat.le_trans (by omega) (owns_block HO3.out a e)⟩, (set_six HZ3.out HW3.out (Nat.le_refl _)).2⟩
set_option maxHeartbeats 4000000 in
set_option maxRecDepth 100000 in
theorem read_4 (b c : UInt8) (r : Nm) (w : World) (hs : r.length ≤ 281474976710000) :
    Calls Tryd.prog 41 #[txt (4 :: b :: c :: r)] w fun e w' => ∃ pp pc' ip ic, e = .returned (vv (readV (4 :: b :: c :: r)) pp pc' ip ic) ∧ Hid (VI w' (readV (4 :: b :: c :: r)) pp pc' ip ic ∧ Fr w.heap.size pp ip ∧ Below w.heap.size w w') := by
  obtain ⟨M, hM⟩ : ∃ M, M = readV (4 :: b :: c :: r) := ⟨_, rfl⟩
  rw [← hM]
  have hM : M = ⟨4, [], [], if 256 < num2 b c then [] else lst (rdT r (num2 b c)), 0, 0⟩ := by rw [hM]; rfl
  obtain ⟨s, hsd⟩ : ∃ s : Nm, s = 4 :: b :: c :: r := ⟨_, rfl⟩
  rw [← hsd]
  have hlen : s.length = r.length + 3 := by rw [hsd]; rfl
  have HAt := hid (fun W => at_any s 1 W (by omega) (by decide))
  rw [at2_is (by omega), show s.getD 1 0 = b by rw [hsd]; rfl, show s.getD (1 + 1) 0 = c by rw [hsd]; rfl] at HAt
  have hB0 : ((((⟨s.toArray⟩ : ByteArray)[0]'(by simp [ByteArray.size]; omega)).toNat : Nat) : Int) = 4 := by subst hsd; rfl
  have hsz : (s.length : Int) ≤ 281474976710656 := by omega
  have h0z : (0 : Int) < (s.length : Int) := by omega
  have hnl := num2_lt b c
  obtain ⟨n, hn⟩ : ∃ n, n = num2 b c := ⟨_, rfl⟩
  rw [← hn] at HAt hnl
  have HA := hid (al_two w (vob zeroV none 0 none 0) (vob ⟨4, [], [], [], 0, 0⟩ none 0 none 0))
  rw [← hn] at hM
  have hd3 : s.drop 3 = r := by rw [hsd]; rfl
  clear hsd hn
  by_cases hbig : 256 < n
  · rw [if_pos hbig] at hM
    have hbz : (256 : Int) < (n : Int) := by omega
    go_enter Tryd.func41, Tryd.ntmps41
    go_wp2_with fail
    refine (HAt.out _).mono ?_; rintro e w1 ⟨rfl, hh⟩
    have HZ := hid ((hh.out.block w.heap.size (by simp; omega)).trans HA.out.2.1)
    have HY := hid ((hh.out.block (w.heap.size + 1) (by simp)).trans HA.out.2.2.1)
    have HW := hid (HA.out.1.trans (hh.out.mono HA.out.1.size))
    clear hh
    obtain ⟨c0, c1, c2, c3, c4, c5⟩ := val_facts HZ.out
    obtain ⟨g0, g1, g2, g3, g4, g5⟩ := val_frozen HZ.out
    obtain ⟨d0, d1, d2, d3, d4, d5⟩ := val_facts HY.out
    obtain ⟨e0, e1, e2, e3, e4, e5⟩ := val_frozen HY.out
    go_wp2_with fail
    refine bodyPost_ret (v := vv M none 0 none 0) ?_ rfl ?_
    · rw [hM]; exact ret_val rfl rfl (set_six HZ.out HW.out (Nat.le_refl _)).1
    · exact ⟨none, 0, none, 0, rfl, by rw [hM]; exact ⟨Rp.nilRow _, Rd.nilRow _⟩, Fr.none _, (set_six HZ.out HW.out (Nat.le_refl _)).2⟩
  · rw [if_neg hbig] at hM
    have hbz : (n : Int) ≤ 256 := by omega
    have HT := hid (fun W => texts_any s 3 n W (by omega) (by omega) (by omega) (by omega))
    rw [hd3] at HT
    generalize lst (rdT r n) = L at *
    clear hbig
    go_enter Tryd.func41, Tryd.ntmps41
    go_wp2_with fail
    refine (HAt.out _).mono ?_; rintro e w1 ⟨rfl, hh⟩
    have HZ := hid ((hh.out.block w.heap.size (by simp; omega)).trans HA.out.2.1)
    have HY := hid ((hh.out.block (w.heap.size + 1) (by simp)).trans HA.out.2.2.1)
    have HW := hid (HA.out.1.trans (hh.out.mono HA.out.1.size))
    clear hh
    obtain ⟨c0, c1, c2, c3, c4, c5⟩ := val_facts HZ.out
    obtain ⟨g0, g1, g2, g3, g4, g5⟩ := val_frozen HZ.out
    obtain ⟨d0, d1, d2, d3, d4, d5⟩ := val_facts HY.out
    obtain ⟨e0, e1, e2, e3, e4, e5⟩ := val_frozen HY.out
    have hwb : w.heap.size + 1 < w1.heap.size := (Array.getElem?_eq_some_iff.1 HY.out).1
    go_wp2_with fail
    refine (HT.out _).mono ?_; rintro e w2 ⟨q, d, z, rfl, hh⟩
    have HZ2 := hid ((hh.out.2.2.block w.heap.size (Array.getElem?_eq_some_iff.1 HZ.out).1).trans HZ.out)
    have HY2 := hid ((hh.out.2.2.block (w.heap.size + 1) (Array.getElem?_eq_some_iff.1 HY.out).1).trans HY.out)
    have HW2 := hid (HW.out.trans (hh.out.2.2.mono HW.out.size))
    have HO2 := hid hh.out.1
    clear hh c0 c1 c2 c3 c4 c5 g0 g1 g2 g3 g4 g5 d0 d1 d2 d3 d4 d5 e0 e1 e2 e3 e4 e5
    obtain ⟨d0, d1, d2, d3, d4, d5⟩ := val_facts HY2.out
    obtain ⟨e0, e1, e2, e3, e4, e5⟩ := val_frozen HY2.out
    have HZ3 := hid ((heap_setCell_other w2 ⟨w.heap.size + 1, 3, none⟩ w.heap.size (.slice q L.length d) (by simp)).trans HZ2.out)
    have HW3 := hid (HW2.out.setCell (p := ⟨w.heap.size + 1, 3, none⟩) (by simp) (.slice q L.length d))
    have HO3 := hid (own_set HO2.out (w.heap.size + 1) 3 (.slice q L.length d) hwb)
    obtain ⟨c0, c1, c2, c3, c4, c5⟩ := val_facts HZ3.out
    obtain ⟨g0, g1, g2, g3, g4, g5⟩ := val_frozen HZ3.out
    go_wp2_with fail
    refine bodyPost_ret (v := vv M none 0 q d) ?_ rfl ?_
    · rw [hM]; exact ret_val rfl rfl (set_six HZ3.out HW3.out (Nat.le_refl _)).1
    · exact ⟨none, 0, q, d, rfl, by rw [hM]; exact ⟨Rp.nilRow _, (own_set6 HO3.out w.heap.size (by omega) _ _ _ _ _ _).rd⟩, ⟨(fun _ h => by cases h), fun a e => Nat.le_trans (by omega) (owns_block HO3.out a e)⟩, (set_six HZ3.out HW3.out (Nat.le_refl _)).2⟩
end Go.Proofs.YtmjmdfenkhmfbaaDoor
