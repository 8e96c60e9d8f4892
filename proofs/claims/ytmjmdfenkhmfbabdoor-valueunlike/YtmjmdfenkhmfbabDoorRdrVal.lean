/- The program's reader: a value. -/
import Derived.Test.YtmjmdfenkhmfbabDoorRdrRow
namespace Go.Proofs.YtmjmdfenkhmfbabDoor
open Go.RowKit

theorem rt_six {b : Nat} {w W : World} {r : Nm} {g : Nat} {c0 c1 c2 c3 c4 c5 : Value} (h : W.heap[g]? = some (.cells #[c0, c1, c2, c3, c4, c5] 27 (0, 0))) (hr : RT b w W r) (hg : w.heap.size ≤ g) (hb : b < w.heap.size) (v0 v1 v2 v3 v4 v5 : Value) :
    ((((((W.setCell ⟨g, 0, none⟩ v0).setCell ⟨g, 1, none⟩ v1).setCell ⟨g, 2, none⟩ v2).setCell ⟨g, 3, none⟩ v3).setCell ⟨g, 4, none⟩ v4).setCell ⟨g, 5, none⟩ v5).heap[g]? = some (.cells #[v0, v1, v2, v3, v4, v5] 27 (0, 0)) ∧ RT b w ((((((W.setCell ⟨g, 0, none⟩ v0).setCell ⟨g, 1, none⟩ v1).setCell ⟨g, 2, none⟩ v2).setCell ⟨g, 3, none⟩ v3).setCell ⟨g, 4, none⟩ v4).setCell ⟨g, 5, none⟩ v5) r :=
  ⟨heap_setCell_same _ g 5 _ _ _ (heap_setCell_same _ g 4 _ _ _ (heap_setCell_same _ g 3 _ _ _ (heap_setCell_same _ g 2 _ _ _ (heap_setCell_same _ g 1 _ _ _ (heap_setCell_same _ g 0 _ _ _ h))))),
    (((((hr.set hg hb 0 v0).set hg hb 1 v1).set hg hb 2 v2).set hg hb 3 v3).set hg hb 4 v4).set hg hb 5 v5⟩
/-- what a value's reading tells -/
def Reads (b : Nat) (w : World) (m : Vl) : Prop :=
  Calls Tryd.prog 10 #[.pointer (some ⟨b, 0, none⟩)] w fun e w' => ∃ pp pc' ip ic, e = .returned (vv m pp pc' ip ic) ∧ Hid (VI w' m pp pc' ip ic ∧ Fr w.heap.size pp ip ∧ ∃ r, RT b w w' r)

set_option maxHeartbeats 4000000 in
set_option maxRecDepth 100000 in
theorem rdval_o (b : Nat) (s : Nm) (w : World) (h : Box w b s) (hs : s.length ≤ 140737488351232) (n1 : numN (s.take 1) ≠ 1) (n2 : numN (s.take 1) ≠ 2) (n3 : numN (s.take 1) ≠ 3) (n4 : numN (s.take 1) ≠ 4) (n5 : numN (s.take 1) ≠ 5) : Reads b w ⟨numN (s.take 1), [], [], [], 0, 0⟩ := by
  have hb : b < w.heap.size := (Array.getElem?_eq_some_iff.1 h).1
  have hb' : b ≠ w.heap.size := by omega
  have H1 := hid (fun W k => number_any b s 1 W k hs (by decide))
  have hs2 : (s.drop 1).length ≤ 140737488351232 := by simp; omega
  have HA := hid (below_alloc w (vob zeroV none 0 none 0))
  have HZ0 := hid (val_new w zeroV none 0 none 0)
  have HBx := hid ((HA.out.block b hb).trans h)
  have HBl := hid hb
  have ne : ∀ z : Nat, numN (s.take 1) ≠ z → ((numN (s.take 1) : Int) == (z : Int)) = false := fun z hz => beq_eq_false_iff_ne.2 fun e => hz (by omega)
  have b1 : ((numN (s.take 1) : Int) == 1) = false := ne 1 n1
  have b2 : ((numN (s.take 1) : Int) == 2) = false := ne 2 n2
  have b3 : ((numN (s.take 1) : Int) == 3) = false := ne 3 n3
  have b4 : ((numN (s.take 1) : Int) == 4) = false := ne 4 n4
  have b5 : ((numN (s.take 1) : Int) == 5) = false := ne 5 n5
  clear ne n1 n2 n3 n4 n5
  generalize (numN (s.take 1) : Int) = X at *
  unfold Reads
  clear h hs hs2
  go_enter Tryd.func10, Tryd.ntmps10
  go_wp2_with fail
  refine (H1.out _ HBx.out).mono ?_; rintro e w1 ⟨rfl, hh⟩
  have hz1 := (hh.out.keep.block w.heap.size (by simp) (Ne.symm hb')).trans HZ0.out
  have hsz : w.heap.size + 1 ≤ w1.heap.size := by have := hh.out.keep.size; simpa using this
  have HAl := hid (below_alloc w1 (vob ⟨X, [], [], [], 0, 0⟩ none 0 none 0))
  have HZ := hid ((HAl.out.block w.heap.size (by omega)).trans hz1)
  have HY := hid (val_new w1 ⟨X, [], [], [], 0, 0⟩ none 0 none 0)
  have HR := hid ((hh.out.from HA.out).below HAl.out)
  have hge : w.heap.size ≤ w1.heap.size := by omega
  have hgt : w.heap.size < w1.heap.size := by omega
  have hne : w1.heap.size ≠ b := by omega
  have HZ1 := hid hz1
  have HRw := hid (hh.out.from HA.out)
  clear hh hz1
  obtain ⟨c0, c1, c2, c3, c4, c5⟩ := val_facts HZ.out
  obtain ⟨g0, g1, g2, g3, g4, g5⟩ := val_frozen HZ.out
  obtain ⟨d0, d1, d2, d3, d4, d5⟩ := val_facts HY.out
  obtain ⟨e0, e1, e2, e3, e4, e5⟩ := val_frozen HY.out
  obtain ⟨i0, i1, i2, i3, i4, i5⟩ := val_facts HZ1.out
  obtain ⟨j0, j1, j2, j3, j4, j5⟩ := val_frozen HZ1.out
  have HQ := hid (rt_six HZ1.out HRw.out (Nat.le_refl _) HBl.out (.int .i64 X) (.string ⟨#[]⟩) (.slice none 0 0) (.slice none 0 0) (.int .i64 0) (.int .i64 0))
  clear HZ HR
  go_wp2_with fail
  refine bodyPost_ret (v := .agg #[.int .i64 X, .string ⟨#[]⟩, .slice none 0 0, .slice none 0 0, .int .i64 0, .int .i64 0]) ?_ rfl ?_
  · exact ret_val rfl rfl ((heap_alloc_old _ _ (Array.getElem?_eq_some_iff.1 HQ.out.1).1).trans HQ.out.1)
  · exact ⟨none, 0, none, 0, rfl, ⟨Rp.nilRow _, Rd.nilRow _⟩, Fr.none _, _, HQ.out.2.below (below_alloc _ _)⟩

set_option maxHeartbeats 4000000 in
set_option maxRecDepth 100000 in
theorem rdval_1 (b : Nat) (s : Nm) (w : World) (h : Box w b s) (hs : s.length ≤ 140737488351232) (hk : numN (s.take 1) = 1) : Reads b w ⟨1, (tkT (s.drop 1)).1, [], [], 0, 0⟩ := by
  have hb : b < w.heap.size := (Array.getElem?_eq_some_iff.1 h).1
  have hb' : b ≠ w.heap.size := by omega
  have H1 := hid (fun W k => number_any b s 1 W k hs (by decide))
  have hs2 : (s.drop 1).length ≤ 140737488351232 := by simp; omega
  have HA := hid (below_alloc w (vob zeroV none 0 none 0))
  have HZ0 := hid (val_new w zeroV none 0 none 0)
  have HBx := hid ((HA.out.block b hb).trans h)
  have HBl := hid hb
  have HT := hid (fun W k => rdtext_any b (s.drop 1) W k hs2)
  have e1 : (numN (s.take 1) : Int) = 1 := by omega
  rw [e1] at H1
  clear e1
  generalize (tkT (s.drop 1)).1 = t at *
  generalize (tkT (s.drop 1)).2 = r2 at *
  unfold Reads
  clear h hs hs2
  go_enter Tryd.func10, Tryd.ntmps10
  go_wp2_with fail
  refine (H1.out _ HBx.out).mono ?_; rintro e w1 ⟨rfl, hh⟩
  have hz1 := (hh.out.keep.block w.heap.size (by simp) (Ne.symm hb')).trans HZ0.out
  have hsz : w.heap.size + 1 ≤ w1.heap.size := by have := hh.out.keep.size; simpa using this
  have HAl := hid (below_alloc w1 (vob ⟨1, [], [], [], 0, 0⟩ none 0 none 0))
  have HZ := hid ((HAl.out.block w.heap.size (by omega)).trans hz1)
  have HY := hid (val_new w1 ⟨1, [], [], [], 0, 0⟩ none 0 none 0)
  have HR := hid ((hh.out.from HA.out).below HAl.out)
  have hge : w.heap.size ≤ w1.heap.size := by omega
  have hgt : w.heap.size < w1.heap.size := by omega
  have hne : w1.heap.size ≠ b := by omega
  have HZ1 := hid hz1
  have HRw := hid (hh.out.from HA.out)
  clear hh hz1
  obtain ⟨c0, c1, c2, c3, c4, c5⟩ := val_facts HZ.out
  obtain ⟨g0, g1, g2, g3, g4, g5⟩ := val_frozen HZ.out
  obtain ⟨d0, d1, d2, d3, d4, d5⟩ := val_facts HY.out
  obtain ⟨e0, e1, e2, e3, e4, e5⟩ := val_frozen HY.out
  go_wp2_with fail
  refine (HT.out _ HR.out.box).mono ?_; rintro e w2 ⟨rfl, hh⟩
  have HZ2 := hid ((hh.out.keep.block w.heap.size (by simp; omega) (Ne.symm hb')).trans HZ.out)
  have HY2 := hid ((hh.out.keep.block w1.heap.size (by simp) hne).trans HY.out)
  have HR2 := hid (HR.out.trans hh.out)
  have hs2 := HR2.out.keep.size
  have hk2 := hh.out.keep.size
  rw [show (w1.alloc (vob ⟨1, [], [], [], 0, 0⟩ none 0 none 0)).heap.size = w1.heap.size + 1 by simp] at hk2
  clear hh
  clear c0 c1 c2 c3 c4 c5 g0 g1 g2 g3 g4 g5 d0 d1 d2 d3 d4 d5 e0 e1 e2 e3 e4 e5
  obtain ⟨c0, c1, c2, c3, c4, c5⟩ := val_facts HZ2.out
  obtain ⟨g0, g1, g2, g3, g4, g5⟩ := val_frozen HZ2.out
  obtain ⟨d0, d1, d2, d3, d4, d5⟩ := val_facts HY2.out
  obtain ⟨e0, e1, e2, e3, e4, e5⟩ := val_frozen HY2.out
  go_wp2_with fail

  refine bodyPost_ret (v := vv ⟨1, t, [], [], 0, 0⟩ none 0 none 0) ?_ rfl ?_
  · exact ret_val rfl rfl (rt_six ((heap_setCell_other _ _ _ _ (by simp only; omega)).trans HZ2.out) (HR2.out.set hge HBl.out _ _) (Nat.le_refl _) HBl.out _ _ _ _ _ _).1
  · exact ⟨none, 0, none, 0, rfl, ⟨Rp.nilRow _, Rd.nilRow _⟩, Fr.none _, _, (rt_six ((heap_setCell_other _ _ _ _ (by simp only; omega)).trans HZ2.out) (HR2.out.set hge HBl.out _ _) (Nat.le_refl _) HBl.out _ _ _ _ _ _).2⟩

set_option maxHeartbeats 4000000 in
set_option maxRecDepth 100000 in
theorem rdval_2 (b : Nat) (s : Nm) (w : World) (h : Box w b s) (hs : s.length ≤ 140737488351232) (hk : numN (s.take 1) = 2) : Reads b w ⟨2, [], (rows tkP (many (s.drop 1)) ((s.drop 1).drop 2)).1, [], 0, 0⟩ := by
  have hb : b < w.heap.size := (Array.getElem?_eq_some_iff.1 h).1
  have hb' : b ≠ w.heap.size := by omega
  have H1 := hid (fun W k => number_any b s 1 W k hs (by decide))
  have hs2 : (s.drop 1).length ≤ 140737488351232 := by simp; omega
  have HA := hid (below_alloc w (vob zeroV none 0 none 0))
  have HZ0 := hid (val_new w zeroV none 0 none 0)
  have HBx := hid ((HA.out.block b hb).trans h)
  have HBl := hid hb
  have HM := hid (fun W k => rdmany_any b (s.drop 1) W k hs2)
  have hs3 : ((s.drop 1).drop 2).length ≤ 140737488351232 := by simp; omega
  have hmm : many (s.drop 1) ≤ 256 := Nat.min_le_right _ _
  have HT := hid (fun W k => rowP_any b (many (s.drop 1)) ((s.drop 1).drop 2) W k hs3 hmm)
  have HLn := hid (rows_len tkP (many (s.drop 1)) ((s.drop 1).drop 2))
  have e1 : (numN (s.take 1) : Int) = 2 := by omega
  rw [e1] at H1
  clear e1
  generalize many (s.drop 1) = n at *
  generalize (s.drop 1).drop 2 = r2 at *
  generalize (rows tkP n r2).2 = r3 at *
  generalize (rows tkP n r2).1 = L at *
  have hnz : (n : Int) ≤ 256 := by omega
  clear hs3 hmm
  unfold Reads
  clear h hs hs2
  go_enter Tryd.func10, Tryd.ntmps10
  go_wp2_with fail
  refine (H1.out _ HBx.out).mono ?_; rintro e w1 ⟨rfl, hh⟩
  have hz1 := (hh.out.keep.block w.heap.size (by simp) (Ne.symm hb')).trans HZ0.out
  have hsz : w.heap.size + 1 ≤ w1.heap.size := by have := hh.out.keep.size; simpa using this
  have HAl := hid (below_alloc w1 (vob ⟨2, [], [], [], 0, 0⟩ none 0 none 0))
  have HZ := hid ((HAl.out.block w.heap.size (by omega)).trans hz1)
  have HY := hid (val_new w1 ⟨2, [], [], [], 0, 0⟩ none 0 none 0)
  have HR := hid ((hh.out.from HA.out).below HAl.out)
  have hge : w.heap.size ≤ w1.heap.size := by omega
  have hgt : w.heap.size < w1.heap.size := by omega
  have hne : w1.heap.size ≠ b := by omega
  have HZ1 := hid hz1
  have HRw := hid (hh.out.from HA.out)
  clear hh hz1
  obtain ⟨c0, c1, c2, c3, c4, c5⟩ := val_facts HZ.out
  obtain ⟨g0, g1, g2, g3, g4, g5⟩ := val_frozen HZ.out
  obtain ⟨d0, d1, d2, d3, d4, d5⟩ := val_facts HY.out
  obtain ⟨e0, e1, e2, e3, e4, e5⟩ := val_frozen HY.out
  go_wp2_with fail
  refine (HM.out _ HR.out.box).mono ?_; rintro e w2 ⟨rfl, hh⟩
  have HZ2 := hid ((hh.out.keep.block w.heap.size (by simp; omega) (Ne.symm hb')).trans HZ.out)
  have HY2 := hid ((hh.out.keep.block w1.heap.size (by simp) hne).trans HY.out)
  have HR2 := hid (HR.out.trans hh.out)
  have hs2 := HR2.out.keep.size
  have hk2 := hh.out.keep.size
  rw [show (w1.alloc (vob ⟨2, [], [], [], 0, 0⟩ none 0 none 0)).heap.size = w1.heap.size + 1 by simp] at hk2
  clear hh
  clear c0 c1 c2 c3 c4 c5 g0 g1 g2 g3 g4 g5 d0 d1 d2 d3 d4 d5 e0 e1 e2 e3 e4 e5
  obtain ⟨c0, c1, c2, c3, c4, c5⟩ := val_facts HZ2.out
  obtain ⟨g0, g1, g2, g3, g4, g5⟩ := val_frozen HZ2.out
  obtain ⟨d0, d1, d2, d3, d4, d5⟩ := val_facts HY2.out
  obtain ⟨e0, e1, e2, e3, e4, e5⟩ := val_frozen HY2.out
  go_wp2_with fail
  refine (HT.out _ HR2.out.box).mono ?_; rintro e w3 ⟨q, d, rfl, hh⟩
  have HZ3 := hid ((hh.out.1.keep.block w.heap.size (by omega) (Ne.symm hb')).trans HZ2.out)
  have HY3 := hid ((hh.out.1.keep.block w1.heap.size (by omega) hne).trans HY2.out)
  have HR3 := hid (HR2.out.trans hh.out.1)
  have hs3 := HR3.out.keep.size
  have hk3 := hh.out.1.keep.size
  rw [show w2.heap.size = w2.heap.size by simp] at hk3
  have HO := hid hh.out.2
  clear hh
  clear c0 c1 c2 c3 c4 c5 g0 g1 g2 g3 g4 g5 d0 d1 d2 d3 d4 d5 e0 e1 e2 e3 e4 e5
  obtain ⟨c0, c1, c2, c3, c4, c5⟩ := val_facts HZ3.out
  obtain ⟨g0, g1, g2, g3, g4, g5⟩ := val_frozen HZ3.out
  obtain ⟨d0, d1, d2, d3, d4, d5⟩ := val_facts HY3.out
  obtain ⟨e0, e1, e2, e3, e4, e5⟩ := val_frozen HY3.out
  go_wp2_with fail
  have hLn := HLn.out
  subst hLn

  refine bodyPost_ret (v := vv ⟨2, [], L, [], 0, 0⟩ q d none 0) ?_ rfl ?_
  · exact ret_val rfl rfl (rt_six ((heap_setCell_other _ _ _ _ (by simp only; omega)).trans HZ3.out) (HR3.out.set hge HBl.out _ _) (Nat.le_refl _) HBl.out _ _ _ _ _ _).1
  · exact ⟨q, d, none, 0, rfl, ⟨((OwnP.set6 (B := w1.heap.size + 1) (OwnP.set (ownsRow_base HO.out (by omega)) w1.heap.size 2 _ (by omega)) w.heap.size (by omega) _ _ _ _ _ _)).rp, Rd.nilRow _⟩, ⟨(fun a ha => Nat.le_trans (by omega) (owns_block HO.out a ha)), (fun _ h => by cases h)⟩, _, (rt_six ((heap_setCell_other _ _ _ _ (by simp only; omega)).trans HZ3.out) (HR3.out.set hge HBl.out _ _) (Nat.le_refl _) HBl.out _ _ _ _ _ _).2⟩

set_option maxHeartbeats 4000000 in
set_option maxRecDepth 100000 in
theorem rdval_4 (b : Nat) (s : Nm) (w : World) (h : Box w b s) (hs : s.length ≤ 140737488351232) (hk : numN (s.take 1) = 4) : Reads b w ⟨4, [], [], (rows tkT (many (s.drop 1)) ((s.drop 1).drop 2)).1, 0, 0⟩ := by
  have hb : b < w.heap.size := (Array.getElem?_eq_some_iff.1 h).1
  have hb' : b ≠ w.heap.size := by omega
  have H1 := hid (fun W k => number_any b s 1 W k hs (by decide))
  have hs2 : (s.drop 1).length ≤ 140737488351232 := by simp; omega
  have HA := hid (below_alloc w (vob zeroV none 0 none 0))
  have HZ0 := hid (val_new w zeroV none 0 none 0)
  have HBx := hid ((HA.out.block b hb).trans h)
  have HBl := hid hb
  have HM := hid (fun W k => rdmany_any b (s.drop 1) W k hs2)
  have hs3 : ((s.drop 1).drop 2).length ≤ 140737488351232 := by simp; omega
  have hmm : many (s.drop 1) ≤ 256 := Nat.min_le_right _ _
  have HT := hid (fun W k => rowT_any b (many (s.drop 1)) ((s.drop 1).drop 2) W k hs3 hmm)
  have HLn := hid (rows_len tkT (many (s.drop 1)) ((s.drop 1).drop 2))
  have e1 : (numN (s.take 1) : Int) = 4 := by omega
  rw [e1] at H1
  clear e1
  generalize many (s.drop 1) = n at *
  generalize (s.drop 1).drop 2 = r2 at *
  generalize (rows tkT n r2).2 = r3 at *
  generalize (rows tkT n r2).1 = L at *
  have hnz : (n : Int) ≤ 256 := by omega
  clear hs3 hmm
  unfold Reads
  clear h hs hs2
  go_enter Tryd.func10, Tryd.ntmps10
  go_wp2_with fail
  refine (H1.out _ HBx.out).mono ?_; rintro e w1 ⟨rfl, hh⟩
  have hz1 := (hh.out.keep.block w.heap.size (by simp) (Ne.symm hb')).trans HZ0.out
  have hsz : w.heap.size + 1 ≤ w1.heap.size := by have := hh.out.keep.size; simpa using this
  have HAl := hid (below_alloc w1 (vob ⟨4, [], [], [], 0, 0⟩ none 0 none 0))
  have HZ := hid ((HAl.out.block w.heap.size (by omega)).trans hz1)
  have HY := hid (val_new w1 ⟨4, [], [], [], 0, 0⟩ none 0 none 0)
  have HR := hid ((hh.out.from HA.out).below HAl.out)
  have hge : w.heap.size ≤ w1.heap.size := by omega
  have hgt : w.heap.size < w1.heap.size := by omega
  have hne : w1.heap.size ≠ b := by omega
  have HZ1 := hid hz1
  have HRw := hid (hh.out.from HA.out)
  clear hh hz1
  obtain ⟨c0, c1, c2, c3, c4, c5⟩ := val_facts HZ.out
  obtain ⟨g0, g1, g2, g3, g4, g5⟩ := val_frozen HZ.out
  obtain ⟨d0, d1, d2, d3, d4, d5⟩ := val_facts HY.out
  obtain ⟨e0, e1, e2, e3, e4, e5⟩ := val_frozen HY.out
  go_wp2_with fail
  refine (HM.out _ HR.out.box).mono ?_; rintro e w2 ⟨rfl, hh⟩
  have HZ2 := hid ((hh.out.keep.block w.heap.size (by simp; omega) (Ne.symm hb')).trans HZ.out)
  have HY2 := hid ((hh.out.keep.block w1.heap.size (by simp) hne).trans HY.out)
  have HR2 := hid (HR.out.trans hh.out)
  have hs2 := HR2.out.keep.size
  have hk2 := hh.out.keep.size
  rw [show (w1.alloc (vob ⟨4, [], [], [], 0, 0⟩ none 0 none 0)).heap.size = w1.heap.size + 1 by simp] at hk2
  clear hh
  clear c0 c1 c2 c3 c4 c5 g0 g1 g2 g3 g4 g5 d0 d1 d2 d3 d4 d5 e0 e1 e2 e3 e4 e5
  obtain ⟨c0, c1, c2, c3, c4, c5⟩ := val_facts HZ2.out
  obtain ⟨g0, g1, g2, g3, g4, g5⟩ := val_frozen HZ2.out
  obtain ⟨d0, d1, d2, d3, d4, d5⟩ := val_facts HY2.out
  obtain ⟨e0, e1, e2, e3, e4, e5⟩ := val_frozen HY2.out
  go_wp2_with fail
  refine (HT.out _ HR2.out.box).mono ?_; rintro e w3 ⟨q, d, rfl, hh⟩
  have HZ3 := hid ((hh.out.1.keep.block w.heap.size (by omega) (Ne.symm hb')).trans HZ2.out)
  have HY3 := hid ((hh.out.1.keep.block w1.heap.size (by omega) hne).trans HY2.out)
  have HR3 := hid (HR2.out.trans hh.out.1)
  have hs3 := HR3.out.keep.size
  have hk3 := hh.out.1.keep.size
  rw [show w2.heap.size = w2.heap.size by simp] at hk3
  have HO := hid hh.out.2
  clear hh
  clear c0 c1 c2 c3 c4 c5 g0 g1 g2 g3 g4 g5 d0 d1 d2 d3 d4 d5 e0 e1 e2 e3 e4 e5
  obtain ⟨c0, c1, c2, c3, c4, c5⟩ := val_facts HZ3.out
  obtain ⟨g0, g1, g2, g3, g4, g5⟩ := val_frozen HZ3.out
  obtain ⟨d0, d1, d2, d3, d4, d5⟩ := val_facts HY3.out
  obtain ⟨e0, e1, e2, e3, e4, e5⟩ := val_frozen HY3.out
  go_wp2_with fail
  have hLn := HLn.out
  subst hLn

  refine bodyPost_ret (v := vv ⟨4, [], [], L, 0, 0⟩ none 0 q d) ?_ rfl ?_
  · exact ret_val rfl rfl (rt_six ((heap_setCell_other _ _ _ _ (by simp only; omega)).trans HZ3.out) (HR3.out.set hge HBl.out _ _) (Nat.le_refl _) HBl.out _ _ _ _ _ _).1
  · exact ⟨none, 0, q, d, rfl, ⟨Rp.nilRow _, ((own_set6 (B := w1.heap.size + 1) (own_set (HO.out.base (by omega)) w1.heap.size 3 _ (by omega)) w.heap.size (by omega) _ _ _ _ _ _)).rd⟩, ⟨(fun _ h => by cases h), (fun a ha => Nat.le_trans (by omega) (owns_block HO.out a ha))⟩, _, (rt_six ((heap_setCell_other _ _ _ _ (by simp only; omega)).trans HZ3.out) (HR3.out.set hge HBl.out _ _) (Nat.le_refl _) HBl.out _ _ _ _ _ _).2⟩

set_option maxHeartbeats 4000000 in
set_option maxRecDepth 100000 in
theorem rdval_3 (b : Nat) (s : Nm) (w : World) (h : Box w b s) (hs : s.length ≤ 140737488351232) (hk : numN (s.take 1) = 3) : Reads b w ⟨3, [], [], (rows tkT (many (s.drop 1)) ((s.drop 1).drop 2)).1, 0, 0⟩ := by
  have hb : b < w.heap.size := (Array.getElem?_eq_some_iff.1 h).1
  have hb' : b ≠ w.heap.size := by omega
  have H1 := hid (fun W k => number_any b s 1 W k hs (by decide))
  have hs2 : (s.drop 1).length ≤ 140737488351232 := by simp; omega
  have HA := hid (below_alloc w (vob zeroV none 0 none 0))
  have HZ0 := hid (val_new w zeroV none 0 none 0)
  have HBx := hid ((HA.out.block b hb).trans h)
  have HBl := hid hb
  have HM := hid (fun W k => rdmany_any b (s.drop 1) W k hs2)
  have hs3 : ((s.drop 1).drop 2).length ≤ 140737488351232 := by simp; omega
  have hmm : many (s.drop 1) ≤ 256 := Nat.min_le_right _ _
  have HT := hid (fun W k => rowT_any b (many (s.drop 1)) ((s.drop 1).drop 2) W k hs3 hmm)
  have HLn := hid (rows_len tkT (many (s.drop 1)) ((s.drop 1).drop 2))
  have e1 : (numN (s.take 1) : Int) = 3 := by omega
  rw [e1] at H1
  clear e1
  generalize many (s.drop 1) = n at *
  generalize (s.drop 1).drop 2 = r2 at *
  generalize (rows tkT n r2).2 = r3 at *
  generalize (rows tkT n r2).1 = L at *
  have hnz : (n : Int) ≤ 256 := by omega
  clear hs3 hmm
  unfold Reads
  clear h hs hs2
  go_enter Tryd.func10, Tryd.ntmps10
  go_wp2_with fail
  refine (H1.out _ HBx.out).mono ?_; rintro e w1 ⟨rfl, hh⟩
  have hz1 := (hh.out.keep.block w.heap.size (by simp) (Ne.symm hb')).trans HZ0.out
  have hsz : w.heap.size + 1 ≤ w1.heap.size := by have := hh.out.keep.size; simpa using this
  have HAl := hid (below_alloc w1 (vob ⟨3, [], [], [], 0, 0⟩ none 0 none 0))
  have HZ := hid ((HAl.out.block w.heap.size (by omega)).trans hz1)
  have HY := hid (val_new w1 ⟨3, [], [], [], 0, 0⟩ none 0 none 0)
  have HR := hid ((hh.out.from HA.out).below HAl.out)
  have hge : w.heap.size ≤ w1.heap.size := by omega
  have hgt : w.heap.size < w1.heap.size := by omega
  have hne : w1.heap.size ≠ b := by omega
  have HZ1 := hid hz1
  have HRw := hid (hh.out.from HA.out)
  clear hh hz1
  obtain ⟨c0, c1, c2, c3, c4, c5⟩ := val_facts HZ.out
  obtain ⟨g0, g1, g2, g3, g4, g5⟩ := val_frozen HZ.out
  obtain ⟨d0, d1, d2, d3, d4, d5⟩ := val_facts HY.out
  obtain ⟨e0, e1, e2, e3, e4, e5⟩ := val_frozen HY.out
  go_wp2_with fail
  refine (HM.out _ HR.out.box).mono ?_; rintro e w2 ⟨rfl, hh⟩
  have HZ2 := hid ((hh.out.keep.block w.heap.size (by simp; omega) (Ne.symm hb')).trans HZ.out)
  have HY2 := hid ((hh.out.keep.block w1.heap.size (by simp) hne).trans HY.out)
  have HR2 := hid (HR.out.trans hh.out)
  have hs2 := HR2.out.keep.size
  have hk2 := hh.out.keep.size
  rw [show (w1.alloc (vob ⟨3, [], [], [], 0, 0⟩ none 0 none 0)).heap.size = w1.heap.size + 1 by simp] at hk2
  clear hh
  clear c0 c1 c2 c3 c4 c5 g0 g1 g2 g3 g4 g5 d0 d1 d2 d3 d4 d5 e0 e1 e2 e3 e4 e5
  obtain ⟨c0, c1, c2, c3, c4, c5⟩ := val_facts HZ2.out
  obtain ⟨g0, g1, g2, g3, g4, g5⟩ := val_frozen HZ2.out
  obtain ⟨d0, d1, d2, d3, d4, d5⟩ := val_facts HY2.out
  obtain ⟨e0, e1, e2, e3, e4, e5⟩ := val_frozen HY2.out
  go_wp2_with fail
  refine (HT.out _ HR2.out.box).mono ?_; rintro e w3 ⟨q, d, rfl, hh⟩
  have HZ3 := hid ((hh.out.1.keep.block w.heap.size (by omega) (Ne.symm hb')).trans HZ2.out)
  have HY3 := hid ((hh.out.1.keep.block w1.heap.size (by omega) hne).trans HY2.out)
  have HR3 := hid (HR2.out.trans hh.out.1)
  have hs3 := HR3.out.keep.size
  have hk3 := hh.out.1.keep.size
  rw [show w2.heap.size = w2.heap.size by simp] at hk3
  have HO := hid hh.out.2
  clear hh
  clear c0 c1 c2 c3 c4 c5 g0 g1 g2 g3 g4 g5 d0 d1 d2 d3 d4 d5 e0 e1 e2 e3 e4 e5
  obtain ⟨c0, c1, c2, c3, c4, c5⟩ := val_facts HZ3.out
  obtain ⟨g0, g1, g2, g3, g4, g5⟩ := val_frozen HZ3.out
  obtain ⟨d0, d1, d2, d3, d4, d5⟩ := val_facts HY3.out
  obtain ⟨e0, e1, e2, e3, e4, e5⟩ := val_frozen HY3.out
  go_wp2_with fail
  have hLn := HLn.out
  subst hLn

  refine bodyPost_ret (v := vv ⟨3, [], [], L, 0, 0⟩ none 0 q d) ?_ rfl ?_
  · exact ret_val rfl rfl (rt_six ((heap_setCell_other _ _ _ _ (by simp only; omega)).trans HZ3.out) (HR3.out.set hge HBl.out _ _) (Nat.le_refl _) HBl.out _ _ _ _ _ _).1
  · exact ⟨none, 0, q, d, rfl, ⟨Rp.nilRow _, ((own_set6 (B := w1.heap.size + 1) (own_set (HO.out.base (by omega)) w1.heap.size 3 _ (by omega)) w.heap.size (by omega) _ _ _ _ _ _)).rd⟩, ⟨(fun _ h => by cases h), (fun a ha => Nat.le_trans (by omega) (owns_block HO.out a ha))⟩, _, (rt_six ((heap_setCell_other _ _ _ _ (by simp only; omega)).trans HZ3.out) (HR3.out.set hge HBl.out _ _) (Nat.le_refl _) HBl.out _ _ _ _ _ _).2⟩

set_option maxHeartbeats 4000000 in
set_option maxRecDepth 100000 in
theorem rdval_5 (b : Nat) (s : Nm) (w : World) (h : Box w b s) (hs : s.length ≤ 140737488351232) (hk : numN (s.take 1) = 5) : Reads b w ⟨5, [], [], [], sg (numN ((s.drop 1).take 4)), sg (numN (((s.drop 1).drop 4).take 4))⟩ := by
  have hb : b < w.heap.size := (Array.getElem?_eq_some_iff.1 h).1
  have hb' : b ≠ w.heap.size := by omega
  have H1 := hid (fun W k => number_any b s 1 W k hs (by decide))
  have hs2 : (s.drop 1).length ≤ 140737488351232 := by simp; omega
  have HA := hid (below_alloc w (vob zeroV none 0 none 0))
  have HZ0 := hid (val_new w zeroV none 0 none 0)
  have HBx := hid ((HA.out.block b hb).trans h)
  have HBl := hid hb
  have HT := hid (fun W k => rdpart_any b (s.drop 1) W k hs2)
  have HU := hid (fun W k => rdpart_any b ((s.drop 1).drop 4) W k (by simp; omega))
  have e1 : (numN (s.take 1) : Int) = 5 := by omega
  rw [e1] at H1
  clear e1
  generalize sg (numN ((s.drop 1).take 4)) = x at *
  generalize sg (numN (((s.drop 1).drop 4).take 4)) = y at *
  generalize ((s.drop 1).drop 4).drop 4 = r3 at *
  generalize (s.drop 1).drop 4 = r2 at *
  unfold Reads
  clear h hs hs2
  go_enter Tryd.func10, Tryd.ntmps10
  go_wp2_with fail
  refine (H1.out _ HBx.out).mono ?_; rintro e w1 ⟨rfl, hh⟩
  have hz1 := (hh.out.keep.block w.heap.size (by simp) (Ne.symm hb')).trans HZ0.out
  have hsz : w.heap.size + 1 ≤ w1.heap.size := by have := hh.out.keep.size; simpa using this
  have HAl := hid (below_alloc w1 (vob ⟨5, [], [], [], 0, 0⟩ none 0 none 0))
  have HZ := hid ((HAl.out.block w.heap.size (by omega)).trans hz1)
  have HY := hid (val_new w1 ⟨5, [], [], [], 0, 0⟩ none 0 none 0)
  have HR := hid ((hh.out.from HA.out).below HAl.out)
  have hge : w.heap.size ≤ w1.heap.size := by omega
  have hgt : w.heap.size < w1.heap.size := by omega
  have hne : w1.heap.size ≠ b := by omega
  have HZ1 := hid hz1
  have HRw := hid (hh.out.from HA.out)
  clear hh hz1
  obtain ⟨c0, c1, c2, c3, c4, c5⟩ := val_facts HZ.out
  obtain ⟨g0, g1, g2, g3, g4, g5⟩ := val_frozen HZ.out
  obtain ⟨d0, d1, d2, d3, d4, d5⟩ := val_facts HY.out
  obtain ⟨e0, e1, e2, e3, e4, e5⟩ := val_frozen HY.out
  go_wp2_with fail
  refine (HT.out _ HR.out.box).mono ?_; rintro e w2 ⟨rfl, hh⟩
  have HZ2 := hid ((hh.out.keep.block w.heap.size (by simp; omega) (Ne.symm hb')).trans HZ.out)
  have HY2 := hid ((hh.out.keep.block w1.heap.size (by simp) hne).trans HY.out)
  have HR2 := hid (HR.out.trans hh.out)
  have hs2 := HR2.out.keep.size
  have hk2 := hh.out.keep.size
  rw [show (w1.alloc (vob ⟨5, [], [], [], 0, 0⟩ none 0 none 0)).heap.size = w1.heap.size + 1 by simp] at hk2
  clear hh
  go_wp2_with fail
  refine (HU.out _ HR2.out.box).mono ?_; rintro e w3 ⟨rfl, hh⟩
  have HZ3 := hid ((hh.out.keep.block w.heap.size (by omega) (Ne.symm hb')).trans HZ2.out)
  have HY3 := hid ((hh.out.keep.block w1.heap.size (by omega) hne).trans HY2.out)
  have HR3 := hid (HR2.out.trans hh.out)
  have hs3 := HR3.out.keep.size
  have hk3 := hh.out.keep.size
  rw [show w2.heap.size = w2.heap.size by simp] at hk3
  clear hh
  clear c0 c1 c2 c3 c4 c5 g0 g1 g2 g3 g4 g5 d0 d1 d2 d3 d4 d5 e0 e1 e2 e3 e4 e5
  obtain ⟨c0, c1, c2, c3, c4, c5⟩ := val_facts HZ3.out
  obtain ⟨g0, g1, g2, g3, g4, g5⟩ := val_frozen HZ3.out
  obtain ⟨d0, d1, d2, d3, d4, d5⟩ := val_facts HY3.out
  obtain ⟨e0, e1, e2, e3, e4, e5⟩ := val_frozen HY3.out
  go_wp2_with fail

  refine bodyPost_ret (v := vv ⟨5, [], [], [], x, y⟩ none 0 none 0) ?_ rfl ?_
  · exact ret_val rfl rfl (rt_six ((heap_setCell_other _ _ _ _ (by simp only; omega)).trans ((heap_setCell_other _ _ _ _ (by simp only; omega)).trans HZ3.out)) ((HR3.out.set hge HBl.out _ _).set hge HBl.out _ _) (Nat.le_refl _) HBl.out _ _ _ _ _ _).1
  · exact ⟨none, 0, none, 0, rfl, ⟨Rp.nilRow _, Rd.nilRow _⟩, Fr.none _, _, (rt_six ((heap_setCell_other _ _ _ _ (by simp only; omega)).trans ((heap_setCell_other _ _ _ _ (by simp only; omega)).trans HZ3.out)) ((HR3.out.set hge HBl.out _ _).set hge HBl.out _ _) (Nat.le_refl _) HBl.out _ _ _ _ _ _).2⟩

/-- what is read -/
theorem rdvalue_any (b : Nat) (s : Nm) (w : World) (h : Box w b s) (hs : s.length ≤ 140737488351232) : Reads b w (rdrV s) := by
  unfold rdrV
  split
  · exact rdval_1 b s w h hs (by assumption)
  · split
    · exact rdval_2 b s w h hs (by assumption)
    · split
      · exact rdval_4 b s w h hs (by assumption)
      · split
        · exact rdval_3 b s w h hs (by assumption)
        · split
          · exact rdval_5 b s w h hs (by assumption)
          · exact rdval_o b s w h hs (by assumption) (by assumption) (by assumption) (by assumption) (by assumption)

end Go.Proofs.YtmjmdfenkhmfbabDoor
