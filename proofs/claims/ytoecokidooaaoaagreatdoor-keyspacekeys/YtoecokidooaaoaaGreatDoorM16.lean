/- RefRight10. -/
import Derived.WalkLawsBesides
import Derived.Test.YtoecokidooaaoaaGreatDoorM13
namespace Go.Proofs.YtoecokidooaaoaaGreatDoor
open Go.RowKit

set_option maxHeartbeats 1000000 in
set_option maxRecDepth 100000 in
/-- ref Right of a point -/
theorem r9right_any (x y : Int) (w : World) : Calls Tryz.prog 83 #[pv x y] w fun e w' => e = .returned (.bool (rtB x y)) ∧ Hid (Below w.heap.size w w') := by
  by_cases h1 : -1048576 ≤ x
  · by_cases h2 : x ≤ 1048576
    · by_cases h3 : -1048576 ≤ y
      · by_cases h4 : y ≤ 1048576
        · rw [rtB_yes ⟨h1, h2, h3, h4⟩]
          go_enter Tryz.func83, Tryz.ntmps83
          go_wp2_with fail
          go_ret
          exact ⟨rfl, below_alloc w _⟩
        · rw [rtB_no fun h => h4 h.2.2.2]
          go_enter Tryz.func83, Tryz.ntmps83
          go_wp2_with fail
          go_ret
          exact ⟨rfl, below_alloc w _⟩
      · rw [rtB_no fun h => h3 h.2.2.1]
        go_enter Tryz.func83, Tryz.ntmps83
        go_wp2_with fail
        go_ret
        exact ⟨rfl, below_alloc w _⟩
    · rw [rtB_no fun h => h2 h.2.1]
      go_enter Tryz.func83, Tryz.ntmps83
      go_wp2_with fail
      go_ret
      exact ⟨rfl, below_alloc w _⟩
  · rw [rtB_no fun h => h1 h.1]
    go_enter Tryz.func83, Tryz.ntmps83
    go_wp2_with fail
    go_ret
    exact ⟨rfl, below_alloc w _⟩
/-- the rows of a value are not too long to be walked -/
structure Short (m : Vl) : Prop where
  pairs : m.pairs.length ≤ 1000000
  items : m.items.length ≤ 1000000
  text : m.text.length ≤ 140737488351232
  names : ∀ x ∈ m.pairs.map (·.1), x.length ≤ 140737488351232
  values : ∀ x ∈ m.pairs.map (·.2), x.length ≤ 140737488351232
  texts : ∀ x ∈ m.items, x.length ≤ 140737488351232
set_option maxHeartbeats 4000000 in
set_option maxRecDepth 100000 in
theorem right_1 (t : Nm) (ps : List (Nm × Nm)) (is : List Nm) (x y : Int) (pp : Option Addr) (pc' : Nat) (ip : Option Addr) (ic : Nat) (w : World) (hS : Short ⟨1, t, ps, is, x, y⟩) (hV : VI w ⟨1, t, ps, is, x, y⟩ pp pc' ip ic) :
    Calls Tryz.prog 57 #[vv ⟨1, t, ps, is, x, y⟩ pp pc' ip ic] w fun e w' => e = .returned (.bool (rightB ⟨1, t, ps, is, x, y⟩)) ∧ Hid (Below w.heap.size w w') := by
  obtain ⟨V, hV'⟩ : ∃ V, V = rightB ⟨1, t, ps, is, x, y⟩ := ⟨_, rfl⟩
  rw [← hV']
  have HV := hid hV'
  have HS := hid hS
  have HI := hid hV
  have HA := hid (al_two w (vob ⟨1, t, ps, is, x, y⟩ pp pc' ip ic) (pc 0 0))
  have hl1 := hS.pairs
  have hl2 := hS.items
  have hl3 := hS.text
  dsimp only at hl1 hl2 hl3
  have hz1 : (ps.length : Int) ≤ 1000000 := by omega
  have hz2 : (is.length : Int) ≤ 1000000 := by omega
  have hz3 : (t.length : Int) ≤ 140737488351232 := by omega
  obtain ⟨c0, c1, c2, c3, c4, c5⟩ := val_facts HA.out.2.1
  obtain ⟨⟨z0, z1⟩, -⟩ := pt_cells HA.out.2.2.1
  clear hV hS hV'
  by_cases hp : (0 : Int) < (ps.length : Int)
  · obtain rfl : V = false := HV.out.trans (rightB_not.2 fun h => by have := h.pairs (by show (1 : Int) ≠ 2; decide); simp only at this; subst this; simp at hp)
    have hpe : ps ≠ [] := fun e => by subst e; simp at hp
    have hpn : 0 < ps.length := by omega
    go_enter Tryz.func57, Tryz.ntmps57
    go_wp2_with fail
    go_ret
    exact ⟨rfl, HA.out.1⟩
  · obtain rfl : ps = [] := List.eq_nil_of_length_eq_zero (by omega)
    clear hp
    by_cases hi : (0 : Int) < (is.length : Int)
    · obtain rfl : V = false := HV.out.trans (rightB_not.2 fun h => by have := h.items (by show (1 : Int) ≠ 3; decide) (by show (1 : Int) ≠ 4; decide); simp only at this; subst this; simp at hi)
      have hie : is ≠ [] := fun e => by subst e; simp at hi
      have hin : 0 < is.length := by omega
      go_enter Tryz.func57, Tryz.ntmps57
      go_wp2_with fail
      go_ret
      exact ⟨rfl, HA.out.1⟩
    · obtain rfl : is = [] := List.eq_nil_of_length_eq_zero (by omega)
      clear hi
      by_cases hx : x = 0
      · subst hx
        by_cases hy : y = 0
        · subst hy
          by_cases hl : (t.length : Int) ≤ 4096
          · obtain rfl : V = true := HV.out.trans (rightB_iff.2 (rtv1 (by omega)))
            go_enter Tryz.func57, Tryz.ntmps57
            go_wp2_with fail
            go_ret
            exact ⟨rfl, HA.out.1⟩
          · obtain rfl : V = false := HV.out.trans (rightB_not.2 fun h => by have := h.k1 rfl; dsimp only at this; omega)
            go_enter Tryz.func57, Tryz.ntmps57
            go_wp2_with fail
            go_ret
            exact ⟨rfl, HA.out.1⟩
        · obtain rfl : V = false := HV.out.trans (rightB_not.2 fun h => hy (h.point (by show (1 : Int) ≠ 5; decide)).2)
          have hyb : (y == 0) = false := beq_eq_false_iff_ne.2 hy
          have hyc : ((0 : Int) == y) = false := beq_eq_false_iff_ne.2 (Ne.symm hy)
          go_enter Tryz.func57, Tryz.ntmps57
          go_wp2_with fail
          go_ret
          exact ⟨rfl, HA.out.1⟩
      · obtain rfl : V = false := HV.out.trans (rightB_not.2 fun h => hx (h.point (by show (1 : Int) ≠ 5; decide)).1)
        have hxb : (x == 0) = false := beq_eq_false_iff_ne.2 hx
        have hxc : ((0 : Int) == x) = false := beq_eq_false_iff_ne.2 (Ne.symm hx)
        go_enter Tryz.func57, Tryz.ntmps57
        go_wp2_with fail
        go_ret
        exact ⟨rfl, HA.out.1⟩
set_option maxHeartbeats 4000000 in
set_option maxRecDepth 100000 in
theorem right_3 (t : Nm) (ps : List (Nm × Nm)) (is : List Nm) (x y : Int) (pp : Option Addr) (pc' : Nat) (ip : Option Addr) (ic : Nat) (w : World) (hS : Short ⟨3, t, ps, is, x, y⟩) (hV : VI w ⟨3, t, ps, is, x, y⟩ pp pc' ip ic) :
    Calls Tryz.prog 57 #[vv ⟨3, t, ps, is, x, y⟩ pp pc' ip ic] w fun e w' => e = .returned (.bool (rightB ⟨3, t, ps, is, x, y⟩)) ∧ Hid (Below w.heap.size w w') := by
  obtain ⟨V, hV'⟩ : ∃ V, V = rightB ⟨3, t, ps, is, x, y⟩ := ⟨_, rfl⟩
  rw [← hV']
  have HV := hid hV'
  have HS := hid hS
  have HI := hid hV
  have HA := hid (al_two w (vob ⟨3, t, ps, is, x, y⟩ pp pc' ip ic) (pc 0 0))
  have hl1 := hS.pairs
  have hl2 := hS.items
  have hl3 := hS.text
  dsimp only at hl1 hl2 hl3
  have hz1 : (ps.length : Int) ≤ 1000000 := by omega
  have hz2 : (is.length : Int) ≤ 1000000 := by omega
  have hz3 : (t.length : Int) ≤ 140737488351232 := by omega
  obtain ⟨c0, c1, c2, c3, c4, c5⟩ := val_facts HA.out.2.1
  obtain ⟨⟨z0, z1⟩, -⟩ := pt_cells HA.out.2.2.1
  clear hV hS hV'
  by_cases ht : t = []
  · subst ht
    by_cases hp : (0 : Int) < (ps.length : Int)
    · obtain rfl : V = false := HV.out.trans (rightB_not.2 fun h => by have := h.pairs (by show (3 : Int) ≠ 2; decide); simp only at this; subst this; simp at hp)
      have hpe : ps ≠ [] := fun e => by subst e; simp at hp
      have hpn : 0 < ps.length := by omega
      go_enter Tryz.func57, Tryz.ntmps57
      go_wp2_with fail
      go_ret
      exact ⟨rfl, HA.out.1⟩
    · obtain rfl : ps = [] := List.eq_nil_of_length_eq_zero (by omega)
      clear hp
      by_cases hx : x = 0
      · subst hx
        by_cases hy : y = 0
        · subst hy
          have HF := hid (fun W h => fits_any ip ic is W h (by omega) (fun z hz => by have := HS.out.texts z hz; omega))
          have hVV : V = fitsB is := by
            rw [HV.out]
            cases hf : fitsB is with
            | true => exact rightB_iff.2 (rtv3 (fitsB_iff.1 hf))
            | false => exact rightB_not.2 fun h => by have := fitsB_yes (h.k3 rfl); dsimp only at this; rw [hf] at this; cases this
          rw [← hVV] at HF
          clear hVV
          go_enter Tryz.func57, Tryz.ntmps57
          go_wp2_with fail
          refine (HF.out _ (HI.out.items.strs.below HA.out.1)).mono ?_; rintro e w1 ⟨rfl, rfl⟩
          go_wp2_with fail
          go_ret
          exact ⟨rfl, HA.out.1⟩
        · obtain rfl : V = false := HV.out.trans (rightB_not.2 fun h => hy (h.point (by show (3 : Int) ≠ 5; decide)).2)
          have hyb : (y == 0) = false := beq_eq_false_iff_ne.2 hy
          have hyc : ((0 : Int) == y) = false := beq_eq_false_iff_ne.2 (Ne.symm hy)
          go_enter Tryz.func57, Tryz.ntmps57
          go_wp2_with fail
          go_ret
          exact ⟨rfl, HA.out.1⟩
      · obtain rfl : V = false := HV.out.trans (rightB_not.2 fun h => hx (h.point (by show (3 : Int) ≠ 5; decide)).1)
        have hxb : (x == 0) = false := beq_eq_false_iff_ne.2 hx
        have hxc : ((0 : Int) == x) = false := beq_eq_false_iff_ne.2 (Ne.symm hx)
        go_enter Tryz.func57, Tryz.ntmps57
        go_wp2_with fail
        go_ret
        exact ⟨rfl, HA.out.1⟩
  · obtain rfl : V = false := HV.out.trans (rightB_not.2 fun h => ht (h.text (by show (3 : Int) ≠ 1; decide)))
    have htb : (t == []) = false := beq_eq_false_iff_ne.2 ht
    have hte : t.isEmpty = false := by cases t with
      | nil => exact absurd rfl ht
      | cons a b => rfl
    go_enter Tryz.func57, Tryz.ntmps57
    go_wp2_with fail
    go_ret
    exact ⟨rfl, HA.out.1⟩
set_option maxHeartbeats 4000000 in
set_option maxRecDepth 100000 in
theorem right_4 (t : Nm) (ps : List (Nm × Nm)) (is : List Nm) (x y : Int) (pp : Option Addr) (pc' : Nat) (ip : Option Addr) (ic : Nat) (w : World) (hS : Short ⟨4, t, ps, is, x, y⟩) (hV : VI w ⟨4, t, ps, is, x, y⟩ pp pc' ip ic) :
    Calls Tryz.prog 57 #[vv ⟨4, t, ps, is, x, y⟩ pp pc' ip ic] w fun e w' => e = .returned (.bool (rightB ⟨4, t, ps, is, x, y⟩)) ∧ Hid (Below w.heap.size w w') := by
  obtain ⟨V, hV'⟩ : ∃ V, V = rightB ⟨4, t, ps, is, x, y⟩ := ⟨_, rfl⟩
  rw [← hV']
  have HV := hid hV'
  have HS := hid hS
  have HI := hid hV
  have HA := hid (al_two w (vob ⟨4, t, ps, is, x, y⟩ pp pc' ip ic) (pc 0 0))
  have hl1 := hS.pairs
  have hl2 := hS.items
  have hl3 := hS.text
  dsimp only at hl1 hl2 hl3
  have hz1 : (ps.length : Int) ≤ 1000000 := by omega
  have hz2 : (is.length : Int) ≤ 1000000 := by omega
  have hz3 : (t.length : Int) ≤ 140737488351232 := by omega
  obtain ⟨c0, c1, c2, c3, c4, c5⟩ := val_facts HA.out.2.1
  obtain ⟨⟨z0, z1⟩, -⟩ := pt_cells HA.out.2.2.1
  clear hV hS hV'
  by_cases ht : t = []
  · subst ht
    by_cases hp : (0 : Int) < (ps.length : Int)
    · obtain rfl : V = false := HV.out.trans (rightB_not.2 fun h => by have := h.pairs (by show (4 : Int) ≠ 2; decide); simp only at this; subst this; simp at hp)
      have hpe : ps ≠ [] := fun e => by subst e; simp at hp
      have hpn : 0 < ps.length := by omega
      go_enter Tryz.func57, Tryz.ntmps57
      go_wp2_with fail
      go_ret
      exact ⟨rfl, HA.out.1⟩
    · obtain rfl : ps = [] := List.eq_nil_of_length_eq_zero (by omega)
      clear hp
      by_cases hx : x = 0
      · subst hx
        by_cases hy : y = 0
        · subst hy
          have HF := hid (fun W h => fits_any ip ic is W h (by omega) (fun z hz => by have := HS.out.texts z hz; omega))
          have HRi := hid (fun W h => rright_any ip ic is W h (by omega))
          cases hf : fitsB is with
          | false =>
            obtain rfl : V = false := HV.out.trans (rightB_not.2 fun h => by have := fitsB_yes (h.k4 rfl).1; dsimp only at this; rw [hf] at this; cases this)
            rw [hf] at HF
            go_enter Tryz.func57, Tryz.ntmps57
            go_wp2_with fail
            refine (HF.out _ (HI.out.items.strs.below HA.out.1)).mono ?_; rintro e w1 ⟨rfl, rfl⟩
            go_wp2_with fail
            go_ret
            exact ⟨rfl, HA.out.1⟩
          | true =>
            rw [hf] at HF
            go_enter Tryz.func57, Tryz.ntmps57
            go_wp2_with fail
            refine (HF.out _ (HI.out.items.strs.below HA.out.1)).mono ?_; rintro e w1 ⟨rfl, hw⟩
            rw [hw]; clear hw w1
            go_wp2_with fail
            refine (HRi.out _ (HI.out.items.below HA.out.1)).mono ?_; rintro e w1 ⟨R, rfl, hh⟩
            obtain rfl : V = R := by
              rw [HV.out]
              cases hR : R with
              | true => exact rightB_iff.2 (rtv4 ⟨fitsB_iff.1 hf, hh.out.1.1 hR⟩)
              | false => exact rightB_not.2 fun h => by have := hh.out.1.2 (h.k4 rfl).2; rw [hR] at this; cases this
            have HW := hid (HA.out.1.trans (hh.out.2.mono HA.out.1.size))
            clear hh
            go_wp2_with fail
            go_ret
            exact ⟨rfl, HW.out⟩
        · obtain rfl : V = false := HV.out.trans (rightB_not.2 fun h => hy (h.point (by show (4 : Int) ≠ 5; decide)).2)
          have hyb : (y == 0) = false := beq_eq_false_iff_ne.2 hy
          have hyc : ((0 : Int) == y) = false := beq_eq_false_iff_ne.2 (Ne.symm hy)
          go_enter Tryz.func57, Tryz.ntmps57
          go_wp2_with fail
          go_ret
          exact ⟨rfl, HA.out.1⟩
      · obtain rfl : V = false := HV.out.trans (rightB_not.2 fun h => hx (h.point (by show (4 : Int) ≠ 5; decide)).1)
        have hxb : (x == 0) = false := beq_eq_false_iff_ne.2 hx
        have hxc : ((0 : Int) == x) = false := beq_eq_false_iff_ne.2 (Ne.symm hx)
        go_enter Tryz.func57, Tryz.ntmps57
        go_wp2_with fail
        go_ret
        exact ⟨rfl, HA.out.1⟩
  · obtain rfl : V = false := HV.out.trans (rightB_not.2 fun h => ht (h.text (by show (4 : Int) ≠ 1; decide)))
    have htb : (t == []) = false := beq_eq_false_iff_ne.2 ht
    have hte : t.isEmpty = false := by cases t with
      | nil => exact absurd rfl ht
      | cons a b => rfl
    go_enter Tryz.func57, Tryz.ntmps57
    go_wp2_with fail
    go_ret
    exact ⟨rfl, HA.out.1⟩
set_option maxHeartbeats 4000000 in
set_option maxRecDepth 100000 in
theorem right_5 (t : Nm) (ps : List (Nm × Nm)) (is : List Nm) (x y : Int) (pp : Option Addr) (pc' : Nat) (ip : Option Addr) (ic : Nat) (w : World) (hS : Short ⟨5, t, ps, is, x, y⟩) (hV : VI w ⟨5, t, ps, is, x, y⟩ pp pc' ip ic) :
    Calls Tryz.prog 57 #[vv ⟨5, t, ps, is, x, y⟩ pp pc' ip ic] w fun e w' => e = .returned (.bool (rightB ⟨5, t, ps, is, x, y⟩)) ∧ Hid (Below w.heap.size w w') := by
  obtain ⟨V, hV'⟩ : ∃ V, V = rightB ⟨5, t, ps, is, x, y⟩ := ⟨_, rfl⟩
  rw [← hV']
  have HV := hid hV'
  have HS := hid hS
  have HI := hid hV
  have HA := hid (al_two w (vob ⟨5, t, ps, is, x, y⟩ pp pc' ip ic) (pc 0 0))
  have hl1 := hS.pairs
  have hl2 := hS.items
  have hl3 := hS.text
  dsimp only at hl1 hl2 hl3
  have hz1 : (ps.length : Int) ≤ 1000000 := by omega
  have hz2 : (is.length : Int) ≤ 1000000 := by omega
  have hz3 : (t.length : Int) ≤ 140737488351232 := by omega
  obtain ⟨c0, c1, c2, c3, c4, c5⟩ := val_facts HA.out.2.1
  obtain ⟨⟨z0, z1⟩, -⟩ := pt_cells HA.out.2.2.1
  clear hV hS hV'
  by_cases ht : t = []
  · subst ht
    by_cases hp : (0 : Int) < (ps.length : Int)
    · obtain rfl : V = false := HV.out.trans (rightB_not.2 fun h => by have := h.pairs (by show (5 : Int) ≠ 2; decide); simp only at this; subst this; simp at hp)
      have hpe : ps ≠ [] := fun e => by subst e; simp at hp
      have hpn : 0 < ps.length := by omega
      go_enter Tryz.func57, Tryz.ntmps57
      go_wp2_with fail
      go_ret
      exact ⟨rfl, HA.out.1⟩
    · obtain rfl : ps = [] := List.eq_nil_of_length_eq_zero (by omega)
      clear hp
      by_cases hi : (0 : Int) < (is.length : Int)
      · obtain rfl : V = false := HV.out.trans (rightB_not.2 fun h => by have := h.items (by show (5 : Int) ≠ 3; decide) (by show (5 : Int) ≠ 4; decide); simp only at this; subst this; simp at hi)
        have hie : is ≠ [] := fun e => by subst e; simp at hi
        have hin : 0 < is.length := by omega
        go_enter Tryz.func57, Tryz.ntmps57
        go_wp2_with fail
        go_ret
        exact ⟨rfl, HA.out.1⟩
      · obtain rfl : is = [] := List.eq_nil_of_length_eq_zero (by omega)
        clear hi
        have HP := hid (fun W => r9right_any x y W)
        have hVV : V = rtB x y := by
          rw [HV.out]
          cases hf : rtB x y with
          | true => exact rightB_iff.2 (rtv5 (rtB_iff.1 hf))
          | false => exact rightB_not.2 fun h => by have := rtB_yes (h.k5 rfl); dsimp only at this; rw [hf] at this; cases this
        rw [← hVV] at HP
        clear hVV
        go_enter Tryz.func57, Tryz.ntmps57
        go_wp2_with fail
        refine (HP.out _).mono ?_; rintro e w1 ⟨rfl, hh⟩
        have HW := hid (HA.out.1.trans (hh.out.mono HA.out.1.size))
        clear hh
        go_wp2_with fail
        go_ret
        exact ⟨rfl, HW.out⟩
  · obtain rfl : V = false := HV.out.trans (rightB_not.2 fun h => ht (h.text (by show (5 : Int) ≠ 1; decide)))
    have htb : (t == []) = false := beq_eq_false_iff_ne.2 ht
    have hte : t.isEmpty = false := by cases t with
      | nil => exact absurd rfl ht
      | cons a b => rfl
    go_enter Tryz.func57, Tryz.ntmps57
    go_wp2_with fail
    go_ret
    exact ⟨rfl, HA.out.1⟩
set_option maxHeartbeats 4000000 in
set_option maxRecDepth 100000 in
theorem right_2 (t : Nm) (ps : List (Nm × Nm)) (is : List Nm) (x y : Int) (pp : Option Addr) (pc' : Nat) (ip : Option Addr) (ic : Nat) (w : World) (hS : Short ⟨2, t, ps, is, x, y⟩) (hV : VI w ⟨2, t, ps, is, x, y⟩ pp pc' ip ic) :
    Calls Tryz.prog 57 #[vv ⟨2, t, ps, is, x, y⟩ pp pc' ip ic] w fun e w' => e = .returned (.bool (rightB ⟨2, t, ps, is, x, y⟩)) ∧ Hid (Below w.heap.size w w') := by
  obtain ⟨V, hV'⟩ : ∃ V, V = rightB ⟨2, t, ps, is, x, y⟩ := ⟨_, rfl⟩
  rw [← hV']
  have HV := hid hV'
  have HS := hid hS
  have HI := hid hV
  have HA := hid (al_two w (vob ⟨2, t, ps, is, x, y⟩ pp pc' ip ic) (pc 0 0))
  have hl1 := hS.pairs
  have hl2 := hS.items
  have hl3 := hS.text
  dsimp only at hl1 hl2 hl3
  have hz1 : (ps.length : Int) ≤ 1000000 := by omega
  have hz2 : (is.length : Int) ≤ 1000000 := by omega
  have hz3 : (t.length : Int) ≤ 140737488351232 := by omega
  obtain ⟨c0, c1, c2, c3, c4, c5⟩ := val_facts HA.out.2.1
  obtain ⟨⟨z0, z1⟩, -⟩ := pt_cells HA.out.2.2.1
  clear hV hS hV'
  by_cases ht : t = []
  · subst ht
    by_cases hi : (0 : Int) < (is.length : Int)
    · obtain rfl : V = false := HV.out.trans (rightB_not.2 fun h => by have := h.items (by show (2 : Int) ≠ 3; decide) (by show (2 : Int) ≠ 4; decide); simp only at this; subst this; simp at hi)
      have hie : is ≠ [] := fun e => by subst e; simp at hi
      have hin : 0 < is.length := by omega
      go_enter Tryz.func57, Tryz.ntmps57
      go_wp2_with fail
      go_ret
      exact ⟨rfl, HA.out.1⟩
    · obtain rfl : is = [] := List.eq_nil_of_length_eq_zero (by omega)
      clear hi
      by_cases hx : x = 0
      · subst hx
        by_cases hy : y = 0
        · subst hy
          have HN := hid (fun W h => names_any pp pc' ps W h (by omega))
          have HU := hid (fun W h => values_any pp pc' ps W h (by omega))
          have HF1 := hid (fun q d W h => fits_any q d (ps.map (·.1)) W h (by simp; omega) (fun z hz => by have := HS.out.names z hz; omega))
          have HF2 := hid (fun q d W h => fits_any q d (ps.map (·.2)) W h (by simp; omega) (fun z hz => by have := HS.out.values z hz; omega))
          have HRi := hid (fun q d W h => rright_any q d (ps.map (·.1)) W h (by simp; omega))
          simp only [List.length_map] at HF1 HF2 HRi
          have HX := hid (rightB_iff (m := ⟨2, [], ps, [], 0, 0⟩))
          cases hf : fitsB (ps.map (·.1)) with
          | false =>
            obtain rfl : V = false := HV.out.trans (rightB_not.2 fun h => by have := fitsB_yes (h.k2 rfl).1; dsimp only at this; rw [hf] at this; cases this)
            rw [hf] at HF1
            go_enter Tryz.func57, Tryz.ntmps57
            go_wp2_with fail
            refine (HN.out _ (HI.out.pairs.prs.below HA.out.1)).mono ?_; rintro e w1 ⟨q, d, rfl, hh⟩
            have HO := hid hh.out.1
            have HW := hid (HA.out.1.trans (hh.out.2.mono HA.out.1.size))
            clear hh
            go_wp2_with fail
            refine (HF1.out q d _ HO.out.rd.strs).mono ?_; rintro e w2 ⟨rfl, rfl⟩
            go_wp2_with fail
            go_ret
            exact ⟨rfl, HW.out⟩
          | true =>
            rw [hf] at HF1
            go_enter Tryz.func57, Tryz.ntmps57
            go_wp2_with fail
            refine (HN.out _ (HI.out.pairs.prs.below HA.out.1)).mono ?_; rintro e w1 ⟨q, d, rfl, hh⟩
            have HO := hid hh.out.1
            have HX1 := hid ((hh.out.2.block w.heap.size (by simp; omega)).trans HA.out.2.1)
            have HW := hid (HA.out.1.trans (hh.out.2.mono HA.out.1.size))
            clear hh c0 c1 c2 c3 c4 c5 z0 z1
            go_wp2_with fail
            refine (HF1.out q d _ HO.out.rd.strs).mono ?_; rintro e w2 ⟨rfl, hw⟩
            rw [hw]; clear hw w2
            go_wp2_with fail
            refine (HRi.out q d _ HO.out.rd).mono ?_; rintro e w2 ⟨R, rfl, hh⟩
            have HX2 := hid ((hh.out.2.block w.heap.size (Array.getElem?_eq_some_iff.1 HX1.out).1).trans HX1.out)
            have HW2 := hid (HW.out.trans (hh.out.2.mono HW.out.size))
            have HRR := hid hh.out.1
            clear hh
            cases R with
            | false =>
              obtain rfl : V = false := HV.out.trans (rightB_not.2 fun h => by have := HRR.out.2 (h.k2 rfl).2.1; cases this)
              go_wp2_with fail
              go_ret
              exact ⟨rfl, HW2.out⟩
            | true =>
              obtain ⟨c0, c1, c2, c3, c4, c5⟩ := val_facts HX2.out
              go_wp2_with fail
              refine (HU.out _ (HI.out.pairs.prs.below HW2.out)).mono ?_; rintro e w3 ⟨q3, d3, rfl, hh⟩
              have HO3 := hid hh.out.1
              have HW3 := hid (HW2.out.trans (hh.out.2.mono HW2.out.size))
              clear hh
              have hVV : V = fitsB (ps.map (·.2)) := by
                rw [HV.out]
                cases hg : fitsB (ps.map (·.2)) with
                | true => exact rightB_iff.2 (rtv2 ⟨fitsB_iff.1 hf, HRR.out.1 trivial, fitsB_iff.1 hg⟩)
                | false => exact rightB_not.2 fun h => by have := fitsB_yes (h.k2 rfl).2.2; dsimp only at this; rw [hg] at this; cases this
              rw [← hVV] at HF2
              clear hVV
              go_wp2_with fail
              refine (HF2.out q3 d3 _ HO3.out.rd.strs).mono ?_; rintro e w4 ⟨rfl, rfl⟩
              go_wp2_with fail
              go_ret
              exact ⟨rfl, HW3.out⟩
        · obtain rfl : V = false := HV.out.trans (rightB_not.2 fun h => hy (h.point (by show (2 : Int) ≠ 5; decide)).2)
          have hyb : (y == 0) = false := beq_eq_false_iff_ne.2 hy
          have hyc : ((0 : Int) == y) = false := beq_eq_false_iff_ne.2 (Ne.symm hy)
          go_enter Tryz.func57, Tryz.ntmps57
          go_wp2_with fail
          go_ret
          exact ⟨rfl, HA.out.1⟩
      · obtain rfl : V = false := HV.out.trans (rightB_not.2 fun h => hx (h.point (by show (2 : Int) ≠ 5; decide)).1)
        have hxb : (x == 0) = false := beq_eq_false_iff_ne.2 hx
        have hxc : ((0 : Int) == x) = false := beq_eq_false_iff_ne.2 (Ne.symm hx)
        go_enter Tryz.func57, Tryz.ntmps57
        go_wp2_with fail
        go_ret
        exact ⟨rfl, HA.out.1⟩
  · obtain rfl : V = false := HV.out.trans (rightB_not.2 fun h => ht (h.text (by show (2 : Int) ≠ 1; decide)))
    have htb : (t == []) = false := beq_eq_false_iff_ne.2 ht
    have hte : t.isEmpty = false := by cases t with
      | nil => exact absurd rfl ht
      | cons a b => rfl
    go_enter Tryz.func57, Tryz.ntmps57
    go_wp2_with fail
    go_ret
    exact ⟨rfl, HA.out.1⟩
set_option maxHeartbeats 4000000 in
set_option maxRecDepth 100000 in
theorem right_o (k : Int) (n1 : k ≠ 1) (n2 : k ≠ 2) (n3 : k ≠ 3) (n4 : k ≠ 4) (n5 : k ≠ 5) (t : Nm) (ps : List (Nm × Nm)) (is : List Nm) (x y : Int) (pp : Option Addr) (pc' : Nat) (ip : Option Addr) (ic : Nat) (w : World) (hS : Short ⟨k, t, ps, is, x, y⟩) (hV : VI w ⟨k, t, ps, is, x, y⟩ pp pc' ip ic) :
    Calls Tryz.prog 57 #[vv ⟨k, t, ps, is, x, y⟩ pp pc' ip ic] w fun e w' => e = .returned (.bool (rightB ⟨k, t, ps, is, x, y⟩)) ∧ Hid (Below w.heap.size w w') := by
  obtain ⟨V, hV'⟩ : ∃ V, V = rightB ⟨k, t, ps, is, x, y⟩ := ⟨_, rfl⟩
  rw [← hV']
  have HV := hid hV'
  have HS := hid hS
  have HI := hid hV
  have HA := hid (al_two w (vob ⟨k, t, ps, is, x, y⟩ pp pc' ip ic) (pc 0 0))
  have hl1 := hS.pairs
  have hl2 := hS.items
  have hl3 := hS.text
  dsimp only at hl1 hl2 hl3
  have hz1 : (ps.length : Int) ≤ 1000000 := by omega
  have hz2 : (is.length : Int) ≤ 1000000 := by omega
  have hz3 : (t.length : Int) ≤ 140737488351232 := by omega
  obtain ⟨c0, c1, c2, c3, c4, c5⟩ := val_facts HA.out.2.1
  obtain ⟨⟨z0, z1⟩, -⟩ := pt_cells HA.out.2.2.1
  clear hV hS hV'
  have b1 : (k == 1) = false := beq_eq_false_iff_ne.2 n1
  have b2 : (k == 2) = false := beq_eq_false_iff_ne.2 n2
  have b3 : (k == 3) = false := beq_eq_false_iff_ne.2 n3
  have b4 : (k == 4) = false := beq_eq_false_iff_ne.2 n4
  have b5 : (k == 5) = false := beq_eq_false_iff_ne.2 n5
  by_cases ht : t = []
  · subst ht
    by_cases hp : (0 : Int) < (ps.length : Int)
    · obtain rfl : V = false := HV.out.trans (rightB_not.2 fun h => by have := h.pairs n2; simp only at this; subst this; simp at hp)
      have hpe : ps ≠ [] := fun e => by subst e; simp at hp
      have hpn : 0 < ps.length := by omega
      go_enter Tryz.func57, Tryz.ntmps57
      go_wp2_with fail
      go_ret
      exact ⟨rfl, HA.out.1⟩
    · obtain rfl : ps = [] := List.eq_nil_of_length_eq_zero (by omega)
      clear hp
      by_cases hi : (0 : Int) < (is.length : Int)
      · obtain rfl : V = false := HV.out.trans (rightB_not.2 fun h => by have := h.items n3 n4; simp only at this; subst this; simp at hi)
        have hie : is ≠ [] := fun e => by subst e; simp at hi
        have hin : 0 < is.length := by omega
        go_enter Tryz.func57, Tryz.ntmps57
        go_wp2_with fail
        go_ret
        exact ⟨rfl, HA.out.1⟩
      · obtain rfl : is = [] := List.eq_nil_of_length_eq_zero (by omega)
        clear hi
        by_cases hx : x = 0
        · subst hx
          by_cases hy : y = 0
          · subst hy
            obtain rfl : V = false := HV.out.trans (rightB_not.2 fun h => by have := h.k; dsimp only at this; omega)
            go_enter Tryz.func57, Tryz.ntmps57
            go_wp2_with fail
            go_ret
            exact ⟨rfl, HA.out.1⟩
          · obtain rfl : V = false := HV.out.trans (rightB_not.2 fun h => hy (h.point n5).2)
            have hyb : (y == 0) = false := beq_eq_false_iff_ne.2 hy
            have hyc : ((0 : Int) == y) = false := beq_eq_false_iff_ne.2 (Ne.symm hy)
            go_enter Tryz.func57, Tryz.ntmps57
            go_wp2_with fail
            go_ret
            exact ⟨rfl, HA.out.1⟩
        · obtain rfl : V = false := HV.out.trans (rightB_not.2 fun h => hx (h.point n5).1)
          have hxb : (x == 0) = false := beq_eq_false_iff_ne.2 hx
          have hxc : ((0 : Int) == x) = false := beq_eq_false_iff_ne.2 (Ne.symm hx)
          go_enter Tryz.func57, Tryz.ntmps57
          go_wp2_with fail
          go_ret
          exact ⟨rfl, HA.out.1⟩
  · obtain rfl : V = false := HV.out.trans (rightB_not.2 fun h => ht (h.text n1))
    have htb : (t == []) = false := beq_eq_false_iff_ne.2 ht
    have hte : t.isEmpty = false := by cases t with
      | nil => exact absurd rfl ht
      | cons a b => rfl
    go_enter Tryz.func57, Tryz.ntmps57
    go_wp2_with fail
    go_ret
    exact ⟨rfl, HA.out.1⟩
/-- ref Right -/
theorem rright10_any (m : Vl) (pp : Option Addr) (pc' : Nat) (ip : Option Addr) (ic : Nat) (w : World) (hS : Short m) (hV : VI w m pp pc' ip ic) :
    Calls Tryz.prog 57 #[vv m pp pc' ip ic] w fun e w' => e = .returned (.bool (rightB m)) ∧ Hid (Below w.heap.size w w') := by
  obtain ⟨k, t, ps, is, x, y⟩ := m
  by_cases h1 : k = 1
  · subst h1; exact right_1 t ps is x y pp pc' ip ic w hS hV
  by_cases h2 : k = 2
  · subst h2; exact right_2 t ps is x y pp pc' ip ic w hS hV
  by_cases h3 : k = 3
  · subst h3; exact right_3 t ps is x y pp pc' ip ic w hS hV
  by_cases h4 : k = 4
  · subst h4; exact right_4 t ps is x y pp pc' ip ic w hS hV
  by_cases h5 : k = 5
  · subst h5; exact right_5 t ps is x y pp pc' ip ic w hS hV
  exact right_o k h1 h2 h3 h4 h5 t ps is x y pp pc' ip ic w hS hV

end Go.Proofs.YtoecokidooaaoaaGreatDoor
