/- The program's Same: slices.Equal at pairs and at texts. -/
import Derived.Test.YtmjmdfenkhmfbabDoorVBase
import Derived.BigQuiet
namespace Go.Proofs.YtmjmdfenkhmfbabDoor
open Go.RowKit

set_option maxHeartbeats 2000000 in
set_option maxRecDepth 100000 in
theorem eqT_any (p1 : Option Addr) (c1 : Nat) (p2 : Option Addr) (c2 : Nat) (l m : Row) (w : World) (h1 : Strs w p1 l) (h2 : Strs w p2 m) (hl : l.length ≤ 140737488351232) :
    Calls Tryd.prog 26 #[.slice p1 l.length c1, .slice p2 m.length c2] w fun e w' => e = .returned (.bool (decide (l = m))) ∧ Hid (Below w.heap.size w w') := by
  obtain ⟨V, hV⟩ : ∃ V, V = decide (l = m) := ⟨_, rfl⟩
  rw [← hV]
  have HV := hid hV
  clear hV
  have H1 := hid h1
  have H2 := hid h2
  have hlz : (l.length : Int) ≤ 140737488351232 := by omega
  clear h1 h2
  by_cases hlen : l.length = m.length
  · have HL := hid hlen
    rw [← hlen]
    have hne : ((l.length : Int) != (l.length : Int)) = false := by simp
    clear hlen
    go_enter Tryd.func26, Tryd.ntmps26
    go_wp2_with fail
    go_loopw [5, 13] (fun _ v13 W => ∃ j : Nat, v13 = .int .i64 j ∧ j ≤ l.length ∧ Hid (l.drop j = m.drop j ↔ l = m) ∧ Hid (Below w.heap.size w W)) (fun _ v13 _ => l.length - (intOf v13).toNat)
    case atStart => exact ⟨0, rfl, Nat.zero_le _, by simp [Hid], Below.refl _ _⟩
    case round =>
      obtain ⟨j, rfl, hj, HD, HW⟩ := hrel
      by_cases hlt : j < l.length
      · have hlt2 : j < m.length := by have := HL.out; omega
        have hjz : (j : Int) < (l.length : Int) := by omega
        obtain ⟨g1, o1, hp1, hc1⟩ := H1.out (fun e => by rw [e] at hlt; simp at hlt)
        obtain ⟨g2, o2, hp2, hc2⟩ := H2.out (fun e => by rw [e] at hlt2; simp at hlt2)
        have HS := hid (drop_step hlt)
        have HS2 := hid (drop_step hlt2)
        have x1 := cell_turn (hc1 j hlt) (HW.out.block g1 (block_lt_of_cell (hc1 j hlt)))
        have x2 := cell_turn (hc2 j hlt2) (HW.out.block g2 (block_lt_of_cell (hc2 j hlt2)))
        subst hp1 hp2
        generalize l[j] = s at *
        generalize m[j] = t at *
        clear hc1 hc2
        by_cases hst : s = t
        · subst hst
          have hbe : (s != s) = false := by simp
          have HD2 : Hid (l.drop (j + 1) = m.drop (j + 1) ↔ l = m) := by
            have := HD.out
            rw [HS.out, HS2.out] at this
            exact ⟨fun h => this.1 (by rw [h]), fun h => (List.cons.inj (this.2 h)).2⟩
          go_wp2_with fail
          go_quiet (fail)
          go_wp2_with fail
          exact ⟨⟨j + 1, by go_num, by omega, HD2.out, by first | exact HW.out | exact HW.out.drew | exact below_redrawn HW.out _⟩, by simp [intOf]; omega⟩
        · have HT : Hid (V = false) := by
            rw [Hid, HV.out, decide_eq_false_iff_not]
            intro e
            have := HD.out.2 e
            rw [HS.out, HS2.out] at this
            exact hst (List.cons.inj this).1
          obtain rfl := HT.out
          have hbe : (s != t) = true := bne_iff_ne.2 hst
          have hbe2 : (s == t) = false := beq_eq_false_iff_ne.2 hst
          clear hst
          go_wp2_with fail
          go_quiet (fail)
          go_wp2_with fail
          go_ret
          exact ⟨rfl, by first | exact HW.out | exact HW.out.drew | exact below_redrawn HW.out _⟩
      · have HT : Hid (V = true) := by
          rw [Hid, HV.out, decide_eq_true_iff]
          exact HD.out.1 (by rw [List.drop_of_length_le (by omega), List.drop_of_length_le (by have := HL.out; omega)])
        obtain rfl := HT.out
        have hge : (l.length : Int) ≤ (j : Int) := by omega
        clear hne
        go_wp2_with fail
        go_ret
        exact ⟨rfl, HW.out⟩
  · have HT : Hid (V = false) := by
      rw [Hid, HV.out, decide_eq_false_iff_not]
      exact fun e => hlen (by rw [e])
    obtain rfl := HT.out
    have hne : ((l.length : Int) != (m.length : Int)) = true := by simp; omega
    have hne2 : ¬ (l.length : Int) = (m.length : Int) := by omega
    go_enter Tryd.func26, Tryd.ntmps26
    go_wp2_with fail
    go_ret
    exact ⟨rfl, Below.refl _ _⟩
set_option maxHeartbeats 2000000 in
set_option maxRecDepth 100000 in
theorem eqP_any (p1 : Option Addr) (c1 : Nat) (p2 : Option Addr) (c2 : Nat) (l m : List (Nm × Nm)) (w : World) (h1 : Prs w p1 l) (h2 : Prs w p2 m) (hl : l.length ≤ 140737488351232) :
    Calls Tryd.prog 25 #[.slice p1 l.length c1, .slice p2 m.length c2] w fun e w' => e = .returned (.bool (decide (l = m))) ∧ Hid (Below w.heap.size w w') := by
  obtain ⟨V, hV⟩ : ∃ V, V = decide (l = m) := ⟨_, rfl⟩
  rw [← hV]
  have HV := hid hV
  clear hV
  have H1 := hid h1
  have H2 := hid h2
  have hlz : (l.length : Int) ≤ 140737488351232 := by omega
  clear h1 h2
  by_cases hlen : l.length = m.length
  · have HL := hid hlen
    rw [← hlen]
    have hne : ((l.length : Int) != (l.length : Int)) = false := by simp
    clear hlen
    go_enter Tryd.func25, Tryd.ntmps25
    go_wp2_with fail
    go_loopw [5, 13] (fun _ v13 W => ∃ j : Nat, v13 = .int .i64 j ∧ j ≤ l.length ∧ Hid (l.drop j = m.drop j ↔ l = m) ∧ Hid (Below w.heap.size w W)) (fun _ v13 _ => l.length - (intOf v13).toNat)
    case atStart => exact ⟨0, rfl, Nat.zero_le _, by simp [Hid], Below.refl _ _⟩
    case round =>
      obtain ⟨j, rfl, hj, HD, HW⟩ := hrel
      by_cases hlt : j < l.length
      · have hlt2 : j < m.length := by have := HL.out; omega
        have hjz : (j : Int) < (l.length : Int) := by omega
        obtain ⟨g1, o1, hp1, hc1⟩ := H1.out (fun e => by rw [e] at hlt; simp at hlt)
        obtain ⟨g2, o2, hp2, hc2⟩ := H2.out (fun e => by rw [e] at hlt2; simp at hlt2)
        have HS := hid (drop_step hlt)
        have HS2 := hid (drop_step hlt2)
        have x1 := cell_turn (hc1 j hlt).1 (HW.out.block g1 (block_lt_of_cell (hc1 j hlt).1))
        have x2 := cell_turn (hc2 j hlt2).1 (HW.out.block g2 (block_lt_of_cell (hc2 j hlt2).1))
        have y1 := cell_turn (hc1 j hlt).2 (HW.out.block g1 (block_lt_of_cell (hc1 j hlt).1))
        have y2 := cell_turn (hc2 j hlt2).2 (HW.out.block g2 (block_lt_of_cell (hc2 j hlt2).1))
        subst hp1 hp2
        have HE : Hid (l[j] = m[j] ↔ l[j].1 = m[j].1 ∧ l[j].2 = m[j].2) := Prod.ext_iff
        generalize l[j] = p1 at *
        generalize m[j] = p2 at *
        obtain ⟨s1, s2⟩ := p1
        obtain ⟨t1, t2⟩ := p2
        dsimp only at *
        clear hc1 hc2
        by_cases hst : s1 = t1
        · by_cases hst2 : s2 = t2
          · subst hst hst2
            have HD2 : Hid (l.drop (j + 1) = m.drop (j + 1) ↔ l = m) := by
              have := HD.out
              rw [HS.out, HS2.out] at this
              exact ⟨fun h => this.1 (by rw [h]), fun h => (List.cons.inj (this.2 h)).2⟩
            go_wp2_with fail
            go_quiet (fail)
            go_wp2_with fail
            exact ⟨⟨j + 1, by go_num, by omega, HD2.out, by first | exact HW.out | exact HW.out.drew | exact below_redrawn HW.out _⟩, by simp [intOf]; omega⟩
          · have HT : Hid (V = false) := by
              rw [Hid, HV.out, decide_eq_false_iff_not]
              intro e
              have := HD.out.2 e
              rw [HS.out, HS2.out] at this
              exact hst2 (HE.out.1 (List.cons.inj this).1).2
            obtain rfl := HT.out
            have hb1 : (s1 == t1) = true := beq_iff_eq.2 hst
            have hb2 : (s2 == t2) = false := beq_eq_false_iff_ne.2 hst2
            clear hst2
            go_wp2_with fail
            go_quiet (fail)
            go_wp2_with fail
            go_ret
            exact ⟨rfl, by first | exact HW.out | exact HW.out.drew | exact below_redrawn HW.out _⟩
        · have HT : Hid (V = false) := by
            rw [Hid, HV.out, decide_eq_false_iff_not]
            intro e
            have := HD.out.2 e
            rw [HS.out, HS2.out] at this
            exact hst (HE.out.1 (List.cons.inj this).1).1
          obtain rfl := HT.out
          have hb1 : (s1 == t1) = false := beq_eq_false_iff_ne.2 hst
          clear hst
          go_wp2_with fail
          go_quiet (fail)
          go_wp2_with fail
          go_ret
          exact ⟨rfl, by first | exact HW.out | exact HW.out.drew | exact below_redrawn HW.out _⟩
      · have HT : Hid (V = true) := by
          rw [Hid, HV.out, decide_eq_true_iff]
          exact HD.out.1 (by rw [List.drop_of_length_le (by omega), List.drop_of_length_le (by have := HL.out; omega)])
        obtain rfl := HT.out
        have hge : (l.length : Int) ≤ (j : Int) := by omega
        clear hne
        go_wp2_with fail
        go_ret
        exact ⟨rfl, HW.out⟩
  · have HT : Hid (V = false) := by
      rw [Hid, HV.out, decide_eq_false_iff_not]
      exact fun e => hlen (by rw [e])
    obtain rfl := HT.out
    have hne : ((l.length : Int) != (m.length : Int)) = true := by simp; omega
    have hne2 : ¬ (l.length : Int) = (m.length : Int) := by omega
    go_enter Tryd.func25, Tryd.ntmps25
    go_wp2_with fail
    go_ret
    exact ⟨rfl, Below.refl _ _⟩
set_option maxHeartbeats 4000000 in
set_option maxRecDepth 100000 in
theorem psame_core (k : Int) (t : Nm) (ps : List (Nm × Nm)) (is : List Nm) (x y : Int) (k' : Int) (t' : Nm) (ps' : List (Nm × Nm)) (is' : List Nm) (x' y' : Int) (pp : Option Addr) (pc' : Nat) (ip : Option Addr) (ic : Nat) (pp2 : Option Addr) (pc2 : Nat) (ip2 : Option Addr) (ic2 : Nat) (w : World)
    (h1 : VI w ⟨k, t, ps, is, x, y⟩ pp pc' ip ic) (h2 : VI w ⟨k', t', ps', is', x', y'⟩ pp2 pc2 ip2 ic2) (hl : ps.length ≤ 140737488351232) (hli : is.length ≤ 140737488351232) (V : Bool) (HV : Hid (V = true ↔ k = k' ∧ t = t' ∧ ps = ps' ∧ is = is' ∧ x = x' ∧ y = y')) :
    Calls Tryd.prog 12 #[vv ⟨k, t, ps, is, x, y⟩ pp pc' ip ic, vv ⟨k', t', ps', is', x', y'⟩ pp2 pc2 ip2 ic2] w fun e w' => e = .returned (.bool V) ∧ Hid (Below w.heap.size w w') := by
  have HA := hid (al_two w (vob ⟨k, t, ps, is, x, y⟩ pp pc' ip ic) (vob ⟨k', t', ps', is', x', y'⟩ pp2 pc2 ip2 ic2))
  obtain ⟨a0, a1, a2, a3, a4, a5⟩ := val_facts HA.out.2.1
  obtain ⟨b0, b1, b2, b3, b4, b5⟩ := val_facts HA.out.2.2.1
  dsimp only at a0 a1 a2 a3 a4 a5 b0 b1 b2 b3 b4 b5
  have HP := hid (fun W g1 g2 => eqP_any pp pc' pp2 pc2 ps ps' W g1 g2 hl)
  have HI := hid (fun W g1 g2 => eqT_any ip ic ip2 ic2 is is' W g1 g2 hli)
  have H1 := hid h1
  have H2 := hid h2
  clear h1 h2
  by_cases ek : k = k'
  · by_cases et : t = t'
    · by_cases ex : x = x'
      · by_cases ey : y = y'
        · have e4 : (k == k') = true := beq_iff_eq.2 ek
          have e3 : (t == t') = true := beq_iff_eq.2 et
          have e2 : (x == x') = true := beq_iff_eq.2 ex
          have e1 : (y == y') = true := beq_iff_eq.2 ey
          subst ek et ex ey
          by_cases ep : ps = ps'
          · have HPs := hid ep
            rw [decide_eq_true ep] at HP
            have hVV : V = decide (is = is') := by
              by_cases e : is = is'
              · rw [decide_eq_true e]; exact HV.out.2 ⟨rfl, rfl, ep, e, rfl, rfl⟩
              · rw [decide_eq_false e]
                cases V with
                | false => rfl
                | true => exact absurd (HV.out.1 rfl).2.2.2.1 e
            rw [← hVV] at HI
            clear hVV ep
            go_enter Tryd.func12, Tryd.ntmps12
            go_wp2_with fail
            refine (HP.out _ (H1.out.below HA.out.1).pairs.prs (H2.out.below HA.out.1).pairs.prs).mono ?_; rintro e w2 ⟨rfl, hh⟩
            have HX := hid ((hh.out.block w.heap.size (by simp; omega)).trans HA.out.2.1)
            have HY := hid ((hh.out.block (w.heap.size + 1) (by simp)).trans HA.out.2.2.1)
            have HW2 := hid (HA.out.1.trans (hh.out.mono HA.out.1.size))
            clear hh a0 a1 a2 a3 a4 a5 b0 b1 b2 b3 b4 b5
            obtain ⟨a0, a1, a2, a3, a4, a5⟩ := val_facts HX.out
            obtain ⟨b0, b1, b2, b3, b4, b5⟩ := val_facts HY.out
            dsimp only at a0 a1 a2 a3 a4 a5 b0 b1 b2 b3 b4 b5
            go_wp2_with fail
            refine (HI.out _ (H1.out.below HW2.out).items.strs (H2.out.below HW2.out).items.strs).mono ?_; rintro e w3 ⟨rfl, hh⟩
            have HW3 := hid (HW2.out.trans (hh.out.mono HW2.out.size))
            clear hh
            go_wp2_with fail
            go_ret
            exact ⟨rfl, HW3.out⟩
          · obtain rfl : V = false := by
              cases V with
              | false => rfl
              | true => exact absurd (HV.out.1 rfl).2.2.1 ep
            rw [decide_eq_false ep] at HP
            clear ep
            go_enter Tryd.func12, Tryd.ntmps12
            go_wp2_with fail
            refine (HP.out _ (H1.out.below HA.out.1).pairs.prs (H2.out.below HA.out.1).pairs.prs).mono ?_; rintro e w2 ⟨rfl, hh⟩
            have HW2 := hid (HA.out.1.trans (hh.out.mono HA.out.1.size))
            clear hh
            go_wp2_with fail
            go_ret
            exact ⟨rfl, HW2.out⟩
        · obtain rfl : V = false := by
            cases V with
            | false => rfl
            | true => exact absurd (HV.out.1 rfl).2.2.2.2.2 ey
          have e4 : (k == k') = true := beq_iff_eq.2 ek
          have e3 : (t == t') = true := beq_iff_eq.2 et
          have e2 : (x == x') = true := beq_iff_eq.2 ex
          have e1 : (y == y') = false := beq_eq_false_iff_ne.2 ey
          clear ey ex et ek
          go_enter Tryd.func12, Tryd.ntmps12
          go_wp2_with fail
          go_ret
          exact ⟨rfl, HA.out.1⟩
      · obtain rfl : V = false := by
          cases V with
          | false => rfl
          | true => exact absurd (HV.out.1 rfl).2.2.2.2.1 ex
        have e4 : (k == k') = true := beq_iff_eq.2 ek
        have e3 : (t == t') = true := beq_iff_eq.2 et
        have e2 : (x == x') = false := beq_eq_false_iff_ne.2 ex
        clear ex et ek
        go_enter Tryd.func12, Tryd.ntmps12
        go_wp2_with fail
        go_ret
        exact ⟨rfl, HA.out.1⟩
    · obtain rfl : V = false := by
        cases V with
        | false => rfl
        | true => exact absurd (HV.out.1 rfl).2.1 et
      have e4 : (k == k') = true := beq_iff_eq.2 ek
      have e3 : (t == t') = false := beq_eq_false_iff_ne.2 et
      clear et ek
      go_enter Tryd.func12, Tryd.ntmps12
      go_wp2_with fail
      go_ret
      exact ⟨rfl, HA.out.1⟩
  · obtain rfl : V = false := by
      cases V with
      | false => rfl
      | true => exact absurd (HV.out.1 rfl).1 ek
    have e4 : (k == k') = false := beq_eq_false_iff_ne.2 ek
    clear ek
    go_enter Tryd.func12, Tryd.ntmps12
    go_wp2_with fail
    go_ret
    exact ⟨rfl, HA.out.1⟩
/-- Same -/
theorem psame_any (a b : Vl) (pp : Option Addr) (pc' : Nat) (ip : Option Addr) (ic : Nat) (pp2 : Option Addr) (pc2 : Nat) (ip2 : Option Addr) (ic2 : Nat) (w : World) (h1 : VI w a pp pc' ip ic) (h2 : VI w b pp2 pc2 ip2 ic2) (hl : a.pairs.length ≤ 140737488351232) (hli : a.items.length ≤ 140737488351232) :
    Calls Tryd.prog 12 #[vv a pp pc' ip ic, vv b pp2 pc2 ip2 ic2] w fun e w' => e = .returned (.bool (decide (a = b))) ∧ Hid (Below w.heap.size w w') := by
  have hV : Hid (decide (a = b) = true ↔ _) := (decide_eq_true_iff (p := a = b)).trans vl_ext
  obtain ⟨k, t, ps, is, x, y⟩ := a
  obtain ⟨k', t', ps', is', x', y'⟩ := b
  exact psame_core k t ps is x y k' t' ps' is' x' y' pp pc' ip ic pp2 pc2 ip2 ic2 w h1 h2 hl hli _ hV

end Go.Proofs.YtmjmdfenkhmfbabDoor
