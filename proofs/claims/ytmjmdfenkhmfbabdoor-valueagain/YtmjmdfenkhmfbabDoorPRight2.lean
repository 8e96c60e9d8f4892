/- The program's Right of values. -/
import Derived.Test.YtmjmdfenkhmfbabDoorPRight
namespace Go.Proofs.YtmjmdfenkhmfbabDoor
open Go.RowKit

/-- what Right tells -/
def RightIs (m : Vl) (pp : Option Addr) (pc' : Nat) (ip : Option Addr) (ic : Nat) (w : World) : Prop :=
  Calls Tryd.prog 13 #[vv m pp pc' ip ic] w fun e w' => e = .returned (.bool (rightB m)) ∧ Hid (Below w.heap.size w w')
theorem pitems_b (p : Option Addr) (c : Nat) (l : Row) (w : World) (h : Strs w p l) (hl : l.length ≤ 140737488351232) (ht : ∀ x ∈ l, x.length ≤ 140737488351232) :
    Calls Tryd.prog 29 #[.slice p l.length c] w fun e w' => e = .returned (.bool (fitsB l)) ∧ Hid (Below w.heap.size w w') := by
  refine (pitems_any p c l w h hl ht).mono ?_
  rintro e w' ⟨rfl, rfl⟩
  exact ⟨rfl, Below.refl _ _⟩

set_option maxHeartbeats 4000000 in
set_option maxRecDepth 100000 in
theorem prt_1 (t : Nm) (ps : List (Nm × Nm)) (is : List Nm) (x y : Int) (pp : Option Addr) (pc' : Nat) (ip : Option Addr) (ic : Nat) (w : World) (hC : Came ⟨1, t, ps, is, x, y⟩) (hV : VI w ⟨1, t, ps, is, x, y⟩ pp pc' ip ic) : RightIs ⟨1, t, ps, is, x, y⟩ pp pc' ip ic w := by
  unfold RightIs
  rw [right1]
  obtain ⟨U, hU⟩ : ∃ U : Bool, U = decide ((⟨0, [], ps, is, x, y⟩ : Vl) = zeroV) := ⟨_, rfl⟩
  have HSm : Hid (∀ W, Below w.heap.size w W → Calls Tryd.prog 12 #[vv ⟨0, [], ps, is, x, y⟩ pp pc' ip ic, .agg #[.int .i64 0, .string ⟨#[]⟩, .slice none 0 0, .slice none 0 0, .int .i64 0, .int .i64 0]] W fun e w' => e = .returned (.bool U) ∧ Hid (Below W.heap.size W w')) := fun W hW => by
    rw [hU]
    exact psame_any ⟨0, [], ps, is, x, y⟩ zeroV pp pc' ip ic none 0 none 0 W ⟨(hV.below hW).pairs, (hV.below hW).items⟩ (VI.zero W) hC.pairs hC.items
  rw [← hU]
  have HA := hid (al_two w (vob ⟨1, t, ps, is, x, y⟩ pp pc' ip ic) (vob ⟨0, t, ps, is, x, y⟩ pp pc' ip ic))
  obtain ⟨a0, a1, a2, a3, a4, a5⟩ := val_facts HA.out.2.1
  obtain ⟨b0, b1, b2, b3, b4, b5⟩ := val_facts HA.out.2.2.1
  obtain ⟨f0, f1, f2, f3, f4, f5⟩ := val_frozen HA.out.2.2.1
  have HVI := hid hV
  have htl := hC.text
  dsimp only at htl
  have htz : (t.length : Int) ≤ 140737488351232 := by omega
  have HBl := hid (al_two w (vob ⟨1, t, ps, is, x, y⟩ pp pc' ip ic) (vob ⟨0, [], ps, is, x, y⟩ pp pc' ip ic)).1
  clear hV hU hC
  dsimp only at a0 a1 a2 a3 a4 a5 b0 b1 b2 b3 b4 b5
  by_cases hf : t.length ≤ 4096
  · have hfz : (t.length : Int) ≤ 4096 := by omega
    rw [decide_eq_true hf, Bool.true_and]
    clear hf htl
    go_enter Tryd.func13, Tryd.ntmps13
    go_wp2_with fail
    refine (HSm.out _ HBl.out).mono ?_; rintro e w2 ⟨rfl, hh⟩
    have HW2 := hid (HBl.out.trans (hh.out.mono HBl.out.size))
    clear hh
    go_wp2_with fail
    go_ret
    exact ⟨rfl, HW2.out⟩
  · have hfz : (4096 : Int) < (t.length : Int) := by omega
    rw [decide_eq_false hf, Bool.false_and]
    clear hf htl
    go_enter Tryd.func13, Tryd.ntmps13
    go_wp2_with fail
    go_ret
    exact ⟨rfl, HBl.out⟩
set_option maxHeartbeats 4000000 in
set_option maxRecDepth 100000 in
theorem prt_2 (t : Nm) (ps : List (Nm × Nm)) (is : List Nm) (x y : Int) (pp : Option Addr) (pc' : Nat) (ip : Option Addr) (ic : Nat) (w : World) (hC : Came ⟨2, t, ps, is, x, y⟩) (hV : VI w ⟨2, t, ps, is, x, y⟩ pp pc' ip ic) : RightIs ⟨2, t, ps, is, x, y⟩ pp pc' ip ic w := by
  unfold RightIs
  rw [right2]
  obtain ⟨U, hU⟩ : ∃ U : Bool, U = decide ((⟨0, t, [], is, x, y⟩ : Vl) = zeroV) := ⟨_, rfl⟩
  have HSm : Hid (∀ W, Below w.heap.size w W → Calls Tryd.prog 12 #[vv ⟨0, t, [], is, x, y⟩ none 0 ip ic, .agg #[.int .i64 0, .string ⟨#[]⟩, .slice none 0 0, .slice none 0 0, .int .i64 0, .int .i64 0]] W fun e w' => e = .returned (.bool U) ∧ Hid (Below W.heap.size W w')) := fun W hW => by
    rw [hU]
    exact psame_any ⟨0, t, [], is, x, y⟩ zeroV none 0 ip ic none 0 none 0 W ⟨(Rp.nilRow W), (hV.below hW).items⟩ (VI.zero W) (by simp) hC.items
  rw [← hU]
  have HA := hid (al_two w (vob ⟨2, t, ps, is, x, y⟩ pp pc' ip ic) (vob ⟨0, t, ps, is, x, y⟩ pp pc' ip ic))
  obtain ⟨a0, a1, a2, a3, a4, a5⟩ := val_facts HA.out.2.1
  obtain ⟨b0, b1, b2, b3, b4, b5⟩ := val_facts HA.out.2.2.1
  obtain ⟨f0, f1, f2, f3, f4, f5⟩ := val_frozen HA.out.2.2.1
  have HVI := hid hV
  have HP := hid (fun W (hW : Below w.heap.size w W) => ppairs_any pp pc' ps W (HVI.out.below hW).pairs.prs hC.pairs hC.names hC.values)
  clear hV hU hC
  dsimp only at a0 a1 a2 a3 a4 a5 b0 b1 b2 b3 b4 b5
  cases hF : rpB ps with
  | true =>
    rw [hF] at HP
    rw [Bool.true_and]
    clear hF
    go_enter Tryd.func13, Tryd.ntmps13
    go_wp2_with fail
    refine (HP.out _ HA.out.1).mono ?_; rintro e w2 ⟨rfl, hh⟩
    have HX2 := hid ((hh.out.block w.heap.size (by simp; omega)).trans HA.out.2.1)
    have HY2 := hid ((hh.out.block (w.heap.size + 1) (by simp)).trans HA.out.2.2.1)
    have HW2 := hid (HA.out.1.trans (hh.out.mono HA.out.1.size))
    clear hh a0 a1 a2 a3 a4 a5 b0 b1 b2 b3 b4 b5 f0 f1 f2 f3 f4 f5
    obtain ⟨a0, a1, a2, a3, a4, a5⟩ := val_facts HX2.out
    obtain ⟨b0, b1, b2, b3, b4, b5⟩ := val_facts HY2.out
    obtain ⟨f0, f1, f2, f3, f4, f5⟩ := val_frozen HY2.out
    dsimp only at a0 a1 a2 a3 a4 a5 b0 b1 b2 b3 b4 b5
    have HW3 := hid (HW2.out.setCell (p := ⟨w.heap.size + 1, 2, none⟩) (by simp) (.slice none 0 0))
    go_wp2_with fail
    refine (HSm.out _ HW3.out).mono ?_; rintro e w3 ⟨rfl, hh⟩
    have HW4 := hid (HW3.out.trans (hh.out.mono HW3.out.size))
    clear hh
    go_wp2_with fail
    go_ret
    exact ⟨rfl, HW4.out⟩
  | false =>
    rw [hF] at HP
    rw [Bool.false_and]
    clear hF
    go_enter Tryd.func13, Tryd.ntmps13
    go_wp2_with fail
    refine (HP.out _ HA.out.1).mono ?_; rintro e w2 ⟨rfl, hh⟩
    have HX2 := hid ((hh.out.block w.heap.size (by simp; omega)).trans HA.out.2.1)
    have HY2 := hid ((hh.out.block (w.heap.size + 1) (by simp)).trans HA.out.2.2.1)
    have HW2 := hid (HA.out.1.trans (hh.out.mono HA.out.1.size))
    clear hh a0 a1 a2 a3 a4 a5 b0 b1 b2 b3 b4 b5 f0 f1 f2 f3 f4 f5
    obtain ⟨a0, a1, a2, a3, a4, a5⟩ := val_facts HX2.out
    obtain ⟨b0, b1, b2, b3, b4, b5⟩ := val_facts HY2.out
    obtain ⟨f0, f1, f2, f3, f4, f5⟩ := val_frozen HY2.out
    dsimp only at a0 a1 a2 a3 a4 a5 b0 b1 b2 b3 b4 b5
    have HW3 := hid (HW2.out.setCell (p := ⟨w.heap.size + 1, 2, none⟩) (by simp) (.slice none 0 0))
    go_wp2_with fail
    go_ret
    exact ⟨rfl, HW3.out⟩
set_option maxHeartbeats 4000000 in
set_option maxRecDepth 100000 in
theorem prt_3 (t : Nm) (ps : List (Nm × Nm)) (is : List Nm) (x y : Int) (pp : Option Addr) (pc' : Nat) (ip : Option Addr) (ic : Nat) (w : World) (hC : Came ⟨3, t, ps, is, x, y⟩) (hV : VI w ⟨3, t, ps, is, x, y⟩ pp pc' ip ic) : RightIs ⟨3, t, ps, is, x, y⟩ pp pc' ip ic w := by
  unfold RightIs
  rw [right3]
  obtain ⟨U, hU⟩ : ∃ U : Bool, U = decide ((⟨0, t, ps, [], x, y⟩ : Vl) = zeroV) := ⟨_, rfl⟩
  have HSm : Hid (∀ W, Below w.heap.size w W → Calls Tryd.prog 12 #[vv ⟨0, t, ps, [], x, y⟩ pp pc' none 0, .agg #[.int .i64 0, .string ⟨#[]⟩, .slice none 0 0, .slice none 0 0, .int .i64 0, .int .i64 0]] W fun e w' => e = .returned (.bool U) ∧ Hid (Below W.heap.size W w')) := fun W hW => by
    rw [hU]
    exact psame_any ⟨0, t, ps, [], x, y⟩ zeroV pp pc' none 0 none 0 none 0 W ⟨(hV.below hW).pairs, (Rd.nilRow W)⟩ (VI.zero W) hC.pairs (by simp)
  rw [← hU]
  have HA := hid (al_two w (vob ⟨3, t, ps, is, x, y⟩ pp pc' ip ic) (vob ⟨0, t, ps, is, x, y⟩ pp pc' ip ic))
  obtain ⟨a0, a1, a2, a3, a4, a5⟩ := val_facts HA.out.2.1
  obtain ⟨b0, b1, b2, b3, b4, b5⟩ := val_facts HA.out.2.2.1
  obtain ⟨f0, f1, f2, f3, f4, f5⟩ := val_frozen HA.out.2.2.1
  have HVI := hid hV
  have HP := hid (fun W (hW : Below w.heap.size w W) => pitems_b ip ic is W (HVI.out.below hW).items.strs hC.items hC.texts)
  clear hV hU hC
  dsimp only at a0 a1 a2 a3 a4 a5 b0 b1 b2 b3 b4 b5
  cases hF : fitsB is with
  | true =>
    rw [hF] at HP
    rw [Bool.true_and]
    clear hF
    go_enter Tryd.func13, Tryd.ntmps13
    go_wp2_with fail
    refine (HP.out _ HA.out.1).mono ?_; rintro e w2 ⟨rfl, hh⟩
    have HX2 := hid ((hh.out.block w.heap.size (by simp; omega)).trans HA.out.2.1)
    have HY2 := hid ((hh.out.block (w.heap.size + 1) (by simp)).trans HA.out.2.2.1)
    have HW2 := hid (HA.out.1.trans (hh.out.mono HA.out.1.size))
    clear hh a0 a1 a2 a3 a4 a5 b0 b1 b2 b3 b4 b5 f0 f1 f2 f3 f4 f5
    obtain ⟨a0, a1, a2, a3, a4, a5⟩ := val_facts HX2.out
    obtain ⟨b0, b1, b2, b3, b4, b5⟩ := val_facts HY2.out
    obtain ⟨f0, f1, f2, f3, f4, f5⟩ := val_frozen HY2.out
    dsimp only at a0 a1 a2 a3 a4 a5 b0 b1 b2 b3 b4 b5
    have HW3 := hid (HW2.out.setCell (p := ⟨w.heap.size + 1, 3, none⟩) (by simp) (.slice none 0 0))
    go_wp2_with fail
    refine (HSm.out _ HW3.out).mono ?_; rintro e w3 ⟨rfl, hh⟩
    have HW4 := hid (HW3.out.trans (hh.out.mono HW3.out.size))
    clear hh
    go_wp2_with fail
    go_ret
    exact ⟨rfl, HW4.out⟩
  | false =>
    rw [hF] at HP
    rw [Bool.false_and]
    clear hF
    go_enter Tryd.func13, Tryd.ntmps13
    go_wp2_with fail
    refine (HP.out _ HA.out.1).mono ?_; rintro e w2 ⟨rfl, hh⟩
    have HX2 := hid ((hh.out.block w.heap.size (by simp; omega)).trans HA.out.2.1)
    have HY2 := hid ((hh.out.block (w.heap.size + 1) (by simp)).trans HA.out.2.2.1)
    have HW2 := hid (HA.out.1.trans (hh.out.mono HA.out.1.size))
    clear hh a0 a1 a2 a3 a4 a5 b0 b1 b2 b3 b4 b5 f0 f1 f2 f3 f4 f5
    obtain ⟨a0, a1, a2, a3, a4, a5⟩ := val_facts HX2.out
    obtain ⟨b0, b1, b2, b3, b4, b5⟩ := val_facts HY2.out
    obtain ⟨f0, f1, f2, f3, f4, f5⟩ := val_frozen HY2.out
    dsimp only at a0 a1 a2 a3 a4 a5 b0 b1 b2 b3 b4 b5
    have HW3 := hid (HW2.out.setCell (p := ⟨w.heap.size + 1, 3, none⟩) (by simp) (.slice none 0 0))
    go_wp2_with fail
    go_ret
    exact ⟨rfl, HW3.out⟩
set_option maxHeartbeats 4000000 in
set_option maxRecDepth 100000 in
theorem prt_4 (t : Nm) (ps : List (Nm × Nm)) (is : List Nm) (x y : Int) (pp : Option Addr) (pc' : Nat) (ip : Option Addr) (ic : Nat) (w : World) (hC : Came ⟨4, t, ps, is, x, y⟩) (hV : VI w ⟨4, t, ps, is, x, y⟩ pp pc' ip ic) : RightIs ⟨4, t, ps, is, x, y⟩ pp pc' ip ic w := by
  unfold RightIs
  rw [right4]
  obtain ⟨U, hU⟩ : ∃ U : Bool, U = decide ((⟨0, t, ps, [], x, y⟩ : Vl) = zeroV) := ⟨_, rfl⟩
  have HSm : Hid (∀ W, Below w.heap.size w W → Calls Tryd.prog 12 #[vv ⟨0, t, ps, [], x, y⟩ pp pc' none 0, .agg #[.int .i64 0, .string ⟨#[]⟩, .slice none 0 0, .slice none 0 0, .int .i64 0, .int .i64 0]] W fun e w' => e = .returned (.bool U) ∧ Hid (Below W.heap.size W w')) := fun W hW => by
    rw [hU]
    exact psame_any ⟨0, t, ps, [], x, y⟩ zeroV pp pc' none 0 none 0 none 0 W ⟨(hV.below hW).pairs, (Rd.nilRow W)⟩ (VI.zero W) hC.pairs (by simp)
  rw [← hU]
  have HA := hid (al_two w (vob ⟨4, t, ps, is, x, y⟩ pp pc' ip ic) (vob ⟨0, t, ps, is, x, y⟩ pp pc' ip ic))
  obtain ⟨a0, a1, a2, a3, a4, a5⟩ := val_facts HA.out.2.1
  obtain ⟨b0, b1, b2, b3, b4, b5⟩ := val_facts HA.out.2.2.1
  obtain ⟨f0, f1, f2, f3, f4, f5⟩ := val_frozen HA.out.2.2.1
  have HVI := hid hV
  have HP := hid (fun W (hW : Below w.heap.size w W) => pitems_b ip ic is W (HVI.out.below hW).items.strs hC.items hC.texts)
  have HQ := hid (fun W (hW : Below w.heap.size w W) => seright_any ip ic is W (HVI.out.below hW).items.strs hC.items)
  clear hV hU hC
  dsimp only at a0 a1 a2 a3 a4 a5 b0 b1 b2 b3 b4 b5
  cases hR : risB is with
  | false =>
    rw [hR] at HQ
    rw [Bool.false_and]
    clear hR
    go_enter Tryd.func13, Tryd.ntmps13
    go_wp2_with fail
    refine (HQ.out _ HA.out.1).mono ?_; rintro e w2 ⟨rfl, hh⟩
    have HW2 := hid (HA.out.1.trans (hh.out.mono HA.out.1.size))
    clear hh
    go_wp2_with fail
    go_ret
    exact ⟨rfl, HW2.out⟩
  | true =>
   rw [hR] at HQ
   rw [Bool.true_and]
   clear hR
   cases hF : fitsB is with
   | true =>
     rw [hF] at HP
     rw [Bool.true_and]
     clear hF
     go_enter Tryd.func13, Tryd.ntmps13
     go_wp2_with fail
     refine (HQ.out _ HA.out.1).mono ?_; rintro e w1 ⟨rfl, hh⟩
     have HX1 := hid ((hh.out.block w.heap.size (by simp; omega)).trans HA.out.2.1)
     have HY1 := hid ((hh.out.block (w.heap.size + 1) (by simp)).trans HA.out.2.2.1)
     have HW1 := hid (HA.out.1.trans (hh.out.mono HA.out.1.size))
     clear hh a0 a1 a2 a3 a4 a5 b0 b1 b2 b3 b4 b5 f0 f1 f2 f3 f4 f5
     obtain ⟨a0, a1, a2, a3, a4, a5⟩ := val_facts HX1.out
     obtain ⟨b0, b1, b2, b3, b4, b5⟩ := val_facts HY1.out
     obtain ⟨f0, f1, f2, f3, f4, f5⟩ := val_frozen HY1.out
     dsimp only at a0 a1 a2 a3 a4 a5 b0 b1 b2 b3 b4 b5
     go_wp2_with fail
     refine (HP.out _ HW1.out).mono ?_; rintro e w2 ⟨rfl, hh⟩
     have HX2 := hid ((hh.out.block w.heap.size (Array.getElem?_eq_some_iff.1 HX1.out).1).trans HX1.out)
     have HY2 := hid ((hh.out.block (w.heap.size + 1) (Array.getElem?_eq_some_iff.1 HY1.out).1).trans HY1.out)
     have HW2 := hid (HW1.out.trans (hh.out.mono HW1.out.size))
     clear hh a0 a1 a2 a3 a4 a5 b0 b1 b2 b3 b4 b5 f0 f1 f2 f3 f4 f5
     obtain ⟨a0, a1, a2, a3, a4, a5⟩ := val_facts HX2.out
     obtain ⟨b0, b1, b2, b3, b4, b5⟩ := val_facts HY2.out
     obtain ⟨f0, f1, f2, f3, f4, f5⟩ := val_frozen HY2.out
     dsimp only at a0 a1 a2 a3 a4 a5 b0 b1 b2 b3 b4 b5
     have HW3 := hid (HW2.out.setCell (p := ⟨w.heap.size + 1, 3, none⟩) (by simp) (.slice none 0 0))
     go_wp2_with fail
     refine (HSm.out _ HW3.out).mono ?_; rintro e w3 ⟨rfl, hh⟩
     have HW4 := hid (HW3.out.trans (hh.out.mono HW3.out.size))
     clear hh
     go_wp2_with fail
     go_ret
     exact ⟨rfl, HW4.out⟩
   | false =>
     rw [hF] at HP
     rw [Bool.false_and]
     clear hF
     go_enter Tryd.func13, Tryd.ntmps13
     go_wp2_with fail
     refine (HQ.out _ HA.out.1).mono ?_; rintro e w1 ⟨rfl, hh⟩
     have HX1 := hid ((hh.out.block w.heap.size (by simp; omega)).trans HA.out.2.1)
     have HY1 := hid ((hh.out.block (w.heap.size + 1) (by simp)).trans HA.out.2.2.1)
     have HW1 := hid (HA.out.1.trans (hh.out.mono HA.out.1.size))
     clear hh a0 a1 a2 a3 a4 a5 b0 b1 b2 b3 b4 b5 f0 f1 f2 f3 f4 f5
     obtain ⟨a0, a1, a2, a3, a4, a5⟩ := val_facts HX1.out
     obtain ⟨b0, b1, b2, b3, b4, b5⟩ := val_facts HY1.out
     obtain ⟨f0, f1, f2, f3, f4, f5⟩ := val_frozen HY1.out
     dsimp only at a0 a1 a2 a3 a4 a5 b0 b1 b2 b3 b4 b5
     go_wp2_with fail
     refine (HP.out _ HW1.out).mono ?_; rintro e w2 ⟨rfl, hh⟩
     have HX2 := hid ((hh.out.block w.heap.size (Array.getElem?_eq_some_iff.1 HX1.out).1).trans HX1.out)
     have HY2 := hid ((hh.out.block (w.heap.size + 1) (Array.getElem?_eq_some_iff.1 HY1.out).1).trans HY1.out)
     have HW2 := hid (HW1.out.trans (hh.out.mono HW1.out.size))
     clear hh a0 a1 a2 a3 a4 a5 b0 b1 b2 b3 b4 b5 f0 f1 f2 f3 f4 f5
     obtain ⟨a0, a1, a2, a3, a4, a5⟩ := val_facts HX2.out
     obtain ⟨b0, b1, b2, b3, b4, b5⟩ := val_facts HY2.out
     obtain ⟨f0, f1, f2, f3, f4, f5⟩ := val_frozen HY2.out
     dsimp only at a0 a1 a2 a3 a4 a5 b0 b1 b2 b3 b4 b5
     have HW3 := hid (HW2.out.setCell (p := ⟨w.heap.size + 1, 3, none⟩) (by simp) (.slice none 0 0))
     go_wp2_with fail
     go_ret
     exact ⟨rfl, HW3.out⟩
set_option maxHeartbeats 4000000 in
set_option maxRecDepth 100000 in
theorem prt_5 (t : Nm) (ps : List (Nm × Nm)) (is : List Nm) (x y : Int) (pp : Option Addr) (pc' : Nat) (ip : Option Addr) (ic : Nat) (w : World) (hC : Came ⟨5, t, ps, is, x, y⟩) (hV : VI w ⟨5, t, ps, is, x, y⟩ pp pc' ip ic) : RightIs ⟨5, t, ps, is, x, y⟩ pp pc' ip ic w := by
  unfold RightIs
  rw [right5]
  obtain ⟨U, hU⟩ : ∃ U : Bool, U = decide ((⟨0, t, ps, is, 0, 0⟩ : Vl) = zeroV) := ⟨_, rfl⟩
  have HSm : Hid (∀ W, Below w.heap.size w W → Calls Tryd.prog 12 #[vv ⟨0, t, ps, is, 0, 0⟩ pp pc' ip ic, .agg #[.int .i64 0, .string ⟨#[]⟩, .slice none 0 0, .slice none 0 0, .int .i64 0, .int .i64 0]] W fun e w' => e = .returned (.bool U) ∧ Hid (Below W.heap.size W w')) := fun W hW => by
    rw [hU]
    exact psame_any ⟨0, t, ps, is, 0, 0⟩ zeroV pp pc' ip ic none 0 none 0 W ⟨(hV.below hW).pairs, (hV.below hW).items⟩ (VI.zero W) hC.pairs hC.items
  rw [← hU]
  have HA := hid (al_two w (vob ⟨5, t, ps, is, x, y⟩ pp pc' ip ic) (vob ⟨0, t, ps, is, x, y⟩ pp pc' ip ic))
  obtain ⟨a0, a1, a2, a3, a4, a5⟩ := val_facts HA.out.2.1
  obtain ⟨b0, b1, b2, b3, b4, b5⟩ := val_facts HA.out.2.2.1
  obtain ⟨f0, f1, f2, f3, f4, f5⟩ := val_frozen HA.out.2.2.1
  have HVI := hid hV
  have HP := hid (fun W (_ : Below w.heap.size w W) => ptright_any x y W)
  clear hV hU hC
  dsimp only at a0 a1 a2 a3 a4 a5 b0 b1 b2 b3 b4 b5
  cases hF : rtB x y with
  | true =>
    rw [hF] at HP
    rw [Bool.true_and]
    clear hF
    go_enter Tryd.func13, Tryd.ntmps13
    go_wp2_with fail
    refine (HP.out _ HA.out.1).mono ?_; rintro e w2 ⟨rfl, hh⟩
    have HX2 := hid ((hh.out.block w.heap.size (by simp; omega)).trans HA.out.2.1)
    have HY2 := hid ((hh.out.block (w.heap.size + 1) (by simp)).trans HA.out.2.2.1)
    have HW2 := hid (HA.out.1.trans (hh.out.mono HA.out.1.size))
    clear hh a0 a1 a2 a3 a4 a5 b0 b1 b2 b3 b4 b5 f0 f1 f2 f3 f4 f5
    obtain ⟨a0, a1, a2, a3, a4, a5⟩ := val_facts HX2.out
    obtain ⟨b0, b1, b2, b3, b4, b5⟩ := val_facts HY2.out
    obtain ⟨f0, f1, f2, f3, f4, f5⟩ := val_frozen HY2.out
    dsimp only at a0 a1 a2 a3 a4 a5 b0 b1 b2 b3 b4 b5
    have HW3 := hid ((HW2.out.setCell (p := ⟨w.heap.size + 1, 4, none⟩) (by simp) (.int .i64 0)).setCell (p := ⟨w.heap.size + 1, 5, none⟩) (by simp) (.int .i64 0))
    go_wp2_with fail
    refine (HSm.out _ HW3.out).mono ?_; rintro e w3 ⟨rfl, hh⟩
    have HW4 := hid (HW3.out.trans (hh.out.mono HW3.out.size))
    clear hh
    go_wp2_with fail
    go_ret
    exact ⟨rfl, HW4.out⟩
  | false =>
    rw [hF] at HP
    rw [Bool.false_and]
    clear hF
    go_enter Tryd.func13, Tryd.ntmps13
    go_wp2_with fail
    refine (HP.out _ HA.out.1).mono ?_; rintro e w2 ⟨rfl, hh⟩
    have HX2 := hid ((hh.out.block w.heap.size (by simp; omega)).trans HA.out.2.1)
    have HY2 := hid ((hh.out.block (w.heap.size + 1) (by simp)).trans HA.out.2.2.1)
    have HW2 := hid (HA.out.1.trans (hh.out.mono HA.out.1.size))
    clear hh a0 a1 a2 a3 a4 a5 b0 b1 b2 b3 b4 b5 f0 f1 f2 f3 f4 f5
    obtain ⟨a0, a1, a2, a3, a4, a5⟩ := val_facts HX2.out
    obtain ⟨b0, b1, b2, b3, b4, b5⟩ := val_facts HY2.out
    obtain ⟨f0, f1, f2, f3, f4, f5⟩ := val_frozen HY2.out
    dsimp only at a0 a1 a2 a3 a4 a5 b0 b1 b2 b3 b4 b5
    have HW3 := hid ((HW2.out.setCell (p := ⟨w.heap.size + 1, 4, none⟩) (by simp) (.int .i64 0)).setCell (p := ⟨w.heap.size + 1, 5, none⟩) (by simp) (.int .i64 0))
    go_wp2_with fail
    go_ret
    exact ⟨rfl, HW3.out⟩
set_option maxHeartbeats 4000000 in
set_option maxRecDepth 100000 in
theorem prt_o (k : Int) (n1 : k ≠ 1) (n2 : k ≠ 2) (n3 : k ≠ 3) (n4 : k ≠ 4) (n5 : k ≠ 5) (t : Nm) (ps : List (Nm × Nm)) (is : List Nm) (x y : Int) (pp : Option Addr) (pc' : Nat) (ip : Option Addr) (ic : Nat) (w : World) : RightIs ⟨k, t, ps, is, x, y⟩ pp pc' ip ic w := by
  unfold RightIs
  rw [right0 n1 n2 n3 n4 n5]
  have HA := hid (al_two w (vob ⟨k, t, ps, is, x, y⟩ pp pc' ip ic) (vob ⟨0, t, ps, is, x, y⟩ pp pc' ip ic))
  have b1 : (k == 1) = false := beq_eq_false_iff_ne.2 n1
  have b2 : (k == 2) = false := beq_eq_false_iff_ne.2 n2
  have b3 : (k == 3) = false := beq_eq_false_iff_ne.2 n3
  have b4 : (k == 4) = false := beq_eq_false_iff_ne.2 n4
  have b5 : (k == 5) = false := beq_eq_false_iff_ne.2 n5
  clear n1 n2 n3 n4 n5
  go_enter Tryd.func13, Tryd.ntmps13
  go_wp2_with fail
  go_ret
  exact ⟨rfl, HA.out.1⟩
/-- Right -/
theorem pright_any (m : Vl) (pp : Option Addr) (pc' : Nat) (ip : Option Addr) (ic : Nat) (w : World) (hC : Came m) (hV : VI w m pp pc' ip ic) : RightIs m pp pc' ip ic w := by
  obtain ⟨k, t, ps, is, x, y⟩ := m
  by_cases h1 : k = 1
  · subst h1; exact prt_1 t ps is x y pp pc' ip ic w hC hV
  · by_cases h2 : k = 2
    · subst h2; exact prt_2 t ps is x y pp pc' ip ic w hC hV
    · by_cases h3 : k = 3
      · subst h3; exact prt_3 t ps is x y pp pc' ip ic w hC hV
      · by_cases h4 : k = 4
        · subst h4; exact prt_4 t ps is x y pp pc' ip ic w hC hV
        · by_cases h5 : k = 5
          · subst h5; exact prt_5 t ps is x y pp pc' ip ic w hC hV
          · exact prt_o k h1 h2 h3 h4 h5 t ps is x y pp pc' ip ic w

end Go.Proofs.YtmjmdfenkhmfbabDoor
