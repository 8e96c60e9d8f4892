/- PEq, PRight, PRight2. -/
import Derived.BigQuiet
import Derived.Test.YtcbncdigejjcpaaGreatDoorM13
namespace Go.Proofs.YtcbncdigejjcpaaGreatDoor
open Go.RowKit

set_option maxHeartbeats 2000000 in
set_option maxRecDepth 100000 in
theorem eqT_any (p1 : Option Addr) (c1 : Nat) (p2 : Option Addr) (c2 : Nat) (l m : Row) (w : World) (h1 : Strs w p1 l) (h2 : Strs w p2 m) (hl : l.length ≤ 140737488351232) :
    Calls Tryz.prog 272 #[.slice p1 l.length c1, .slice p2 m.length c2] w fun e w' => e = .returned (.bool (decide (l = m))) ∧ Hid (Below w.heap.size w w') := by
  obtain ⟨V, hV⟩ : ∃ V, V = decide (l = m) := ⟨_, rfl⟩
  rw [← hV]
  have HV := hid hV
  clear hV
  have H1 := hid h1
  have H2 := hid h2
  have hlz : (l.length : Int) ≤ 140737488351232 := by omega
  clear h1 h2
  by_cases hlen : l.length = m.length
  · have HL := hid hlen
    rw [← hlen]
    have hne : ((l.length : Int) != (l.length : Int)) = false := by simp
    clear hlen
    go_enter Tryz.func272, Tryz.ntmps272
    go_wp2_with fail
    go_loopw [5, 13] (fun _ v13 W => ∃ j : Nat, v13 = .int .i64 j ∧ j ≤ l.length ∧ Hid (l.drop j = m.drop j ↔ l = m) ∧ Hid (Below w.heap.size w W)) (fun _ v13 _ => l.length - (intOf v13).toNat)
    case atStart => exact ⟨0, rfl, Nat.zero_le _, by simp [Hid], Below.refl _ _⟩
    case round =>
      obtain ⟨j, rfl, hj, HD, HW⟩ := hrel
      by_cases hlt : j < l.length
      · have hlt2 : j < m.length := by have := HL.out; omega
        have hjz : (j : Int) < (l.length : Int) := by omega
        obtain ⟨g1, o1, hp1, hc1⟩ := H1.out (fun e => by rw [e] at hlt; simp at hlt)
        obtain ⟨g2, o2, hp2, hc2⟩ := H2.out (fun e => by rw [e] at hlt2; simp at hlt2)
        have HS := hid (drop_step hlt)
        have HS2 := hid (drop_step hlt2)
        have x1 := cell_turn (hc1 j hlt) (HW.out.block g1 (block_lt_of_cell (hc1 j hlt)))
        have x2 := cell_turn (hc2 j hlt2) (HW.out.block g2 (block_lt_of_cell (hc2 j hlt2)))
        subst hp1 hp2
        generalize l[j] = s at *
        generalize m[j] = t at *
        clear hc1 hc2
        by_cases hst : s = t
        · subst hst
          have hbe : (s != s) = false := by simp
          have HD2 : Hid (l.drop (j + 1) = m.drop (j + 1) ↔ l = m) := by
            have := HD.out
            rw [HS.out, HS2.out] at this
            exact ⟨fun h => this.1 (by rw [h]), fun h => (List.cons.inj (this.2 h)).2⟩
          go_wp2_with fail
          go_quiet (fail)
          go_wp2_with fail
          exact ⟨⟨j + 1, by go_num, by omega, HD2.out, by first | exact HW.out | exact HW.out.drew | exact below_redrawn HW.out _⟩, by simp [intOf]; omega⟩
        · have HT : Hid (V = false) := by
            rw [Hid, HV.out, decide_eq_false_iff_not]
            intro e
            have := HD.out.2 e
            rw [HS.out, HS2.out] at this
            exact hst (List.cons.inj this).1
          obtain rfl := HT.out
          have hbe : (s != t) = true := bne_iff_ne.2 hst
          have hbe2 : (s == t) = false := beq_eq_false_iff_ne.2 hst
          clear hst
          go_wp2_with fail
          go_quiet (fail)
          go_wp2_with fail
          go_ret
          exact ⟨rfl, by first | exact HW.out | exact HW.out.drew | exact below_redrawn HW.out _⟩
      · have HT : Hid (V = true) := by
          rw [Hid, HV.out, decide_eq_true_iff]
          exact HD.out.1 (by rw [List.drop_of_length_le (by omega), List.drop_of_length_le (by have := HL.out; omega)])
        obtain rfl := HT.out
        have hge : (l.length : Int) ≤ (j : Int) := by omega
        clear hne
        go_wp2_with fail
        go_ret
        exact ⟨rfl, HW.out⟩
  · have HT : Hid (V = false) := by
      rw [Hid, HV.out, decide_eq_false_iff_not]
      exact fun e => hlen (by rw [e])
    obtain rfl := HT.out
    have hne : ((l.length : Int) != (m.length : Int)) = true := by simp; omega
    have hne2 : ¬ (l.length : Int) = (m.length : Int) := by omega
    go_enter Tryz.func272, Tryz.ntmps272
    go_wp2_with fail
    go_ret
    exact ⟨rfl, Below.refl _ _⟩
set_option maxHeartbeats 2000000 in
set_option maxRecDepth 100000 in
theorem eqP_any (p1 : Option Addr) (c1 : Nat) (p2 : Option Addr) (c2 : Nat) (l m : List (Nm × Nm)) (w : World) (h1 : Prs w p1 l) (h2 : Prs w p2 m) (hl : l.length ≤ 140737488351232) :
    Calls Tryz.prog 271 #[.slice p1 l.length c1, .slice p2 m.length c2] w fun e w' => e = .returned (.bool (decide (l = m))) ∧ Hid (Below w.heap.size w w') := by
  obtain ⟨V, hV⟩ : ∃ V, V = decide (l = m) := ⟨_, rfl⟩
  rw [← hV]
  have HV := hid hV
  clear hV
  have H1 := hid h1
  have H2 := hid h2
  have hlz : (l.length : Int) ≤ 140737488351232 := by omega
  clear h1 h2
  by_cases hlen : l.length = m.length
  · have HL := hid hlen
    rw [← hlen]
    have hne : ((l.length : Int) != (l.length : Int)) = false := by simp
    clear hlen
    go_enter Tryz.func271, Tryz.ntmps271
    go_wp2_with fail
    go_loopw [5, 13] (fun _ v13 W => ∃ j : Nat, v13 = .int .i64 j ∧ j ≤ l.length ∧ Hid (l.drop j = m.drop j ↔ l = m) ∧ Hid (Below w.heap.size w W)) (fun _ v13 _ => l.length - (intOf v13).toNat)
    case atStart => exact ⟨0, rfl, Nat.zero_le _, by simp [Hid], Below.refl _ _⟩
    case round =>
      obtain ⟨j, rfl, hj, HD, HW⟩ := hrel
      by_cases hlt : j < l.length
      · have hlt2 : j < m.length := by have := HL.out; omega
        have hjz : (j : Int) < (l.length : Int) := by omega
        obtain ⟨g1, o1, hp1, hc1⟩ := H1.out (fun e => by rw [e] at hlt; simp at hlt)
        obtain ⟨g2, o2, hp2, hc2⟩ := H2.out (fun e => by rw [e] at hlt2; simp at hlt2)
        have HS := hid (drop_step hlt)
        have HS2 := hid (drop_step hlt2)
        have x1 := cell_turn (hc1 j hlt).1 (HW.out.block g1 (block_lt_of_cell (hc1 j hlt).1))
        have x2 := cell_turn (hc2 j hlt2).1 (HW.out.block g2 (block_lt_of_cell (hc2 j hlt2).1))
        have y1 := cell_turn (hc1 j hlt).2 (HW.out.block g1 (block_lt_of_cell (hc1 j hlt).1))
        have y2 := cell_turn (hc2 j hlt2).2 (HW.out.block g2 (block_lt_of_cell (hc2 j hlt2).1))
        subst hp1 hp2
        have HE : Hid (l[j] = m[j] ↔ l[j].1 = m[j].1 ∧ l[j].2 = m[j].2) := Prod.ext_iff
        generalize l[j] = p1 at *
        generalize m[j] = p2 at *
        obtain ⟨s1, s2⟩ := p1
        obtain ⟨t1, t2⟩ := p2
        dsimp only at *
        clear hc1 hc2
        by_cases hst : s1 = t1
        · by_cases hst2 : s2 = t2
          · subst hst hst2
            have HD2 : Hid (l.drop (j + 1) = m.drop (j + 1) ↔ l = m) := by
              have := HD.out
              rw [HS.out, HS2.out] at this
              exact ⟨fun h => this.1 (by rw [h]), fun h => (List.cons.inj (this.2 h)).2⟩
            go_wp2_with fail
            go_quiet (fail)
            go_wp2_with fail
            exact ⟨⟨j + 1, by go_num, by omega, HD2.out, by first | exact HW.out | exact HW.out.drew | exact below_redrawn HW.out _⟩, by simp [intOf]; omega⟩
          · have HT : Hid (V = false) := by
              rw [Hid, HV.out, decide_eq_false_iff_not]
              intro e
              have := HD.out.2 e
              rw [HS.out, HS2.out] at this
              exact hst2 (HE.out.1 (List.cons.inj this).1).2
            obtain rfl := HT.out
            have hb1 : (s1 == t1) = true := beq_iff_eq.2 hst
            have hb2 : (s2 == t2) = false := beq_eq_false_iff_ne.2 hst2
            clear hst2
            go_wp2_with fail
            go_quiet (fail)
            go_wp2_with fail
            go_ret
            exact ⟨rfl, by first | exact HW.out | exact HW.out.drew | exact below_redrawn HW.out _⟩
        · have HT : Hid (V = false) := by
            rw [Hid, HV.out, decide_eq_false_iff_not]
            intro e
            have := HD.out.2 e
            rw [HS.out, HS2.out] at this
            exact hst (HE.out.1 (List.cons.inj this).1).1
          obtain rfl := HT.out
          have hb1 : (s1 == t1) = false := beq_eq_false_iff_ne.2 hst
          clear hst
          go_wp2_with fail
          go_quiet (fail)
          go_wp2_with fail
          go_ret
          exact ⟨rfl, by first | exact HW.out | exact HW.out.drew | exact below_redrawn HW.out _⟩
      · have HT : Hid (V = true) := by
          rw [Hid, HV.out, decide_eq_true_iff]
          exact HD.out.1 (by rw [List.drop_of_length_le (by omega), List.drop_of_length_le (by have := HL.out; omega)])
        obtain rfl := HT.out
        have hge : (l.length : Int) ≤ (j : Int) := by omega
        clear hne
        go_wp2_with fail
        go_ret
        exact ⟨rfl, HW.out⟩
  · have HT : Hid (V = false) := by
      rw [Hid, HV.out, decide_eq_false_iff_not]
      exact fun e => hlen (by rw [e])
    obtain rfl := HT.out
    have hne : ((l.length : Int) != (m.length : Int)) = true := by simp; omega
    have hne2 : ¬ (l.length : Int) = (m.length : Int) := by omega
    go_enter Tryz.func271, Tryz.ntmps271
    go_wp2_with fail
    go_ret
    exact ⟨rfl, Below.refl _ _⟩
set_option maxHeartbeats 4000000 in
set_option maxRecDepth 100000 in
theorem psame_core (k : Int) (t : Nm) (ps : List (Nm × Nm)) (is : List Nm) (x y : Int) (k' : Int) (t' : Nm) (ps' : List (Nm × Nm)) (is' : List Nm) (x' y' : Int) (pp : Option Addr) (pc' : Nat) (ip : Option Addr) (ic : Nat) (pp2 : Option Addr) (pc2 : Nat) (ip2 : Option Addr) (ic2 : Nat) (w : World)
    (h1 : VI w ⟨k, t, ps, is, x, y⟩ pp pc' ip ic) (h2 : VI w ⟨k', t', ps', is', x', y'⟩ pp2 pc2 ip2 ic2) (hl : ps.length ≤ 140737488351232) (hli : is.length ≤ 140737488351232) (V : Bool) (HV : Hid (V = true ↔ k = k' ∧ t = t' ∧ ps = ps' ∧ is = is' ∧ x = x' ∧ y = y')) :
    Calls Tryz.prog 235 #[vv ⟨k, t, ps, is, x, y⟩ pp pc' ip ic, vv ⟨k', t', ps', is', x', y'⟩ pp2 pc2 ip2 ic2] w fun e w' => e = .returned (.bool V) ∧ Hid (Below w.heap.size w w') := by
  have HA := hid (al_two w (vob ⟨k, t, ps, is, x, y⟩ pp pc' ip ic) (vob ⟨k', t', ps', is', x', y'⟩ pp2 pc2 ip2 ic2))
  obtain ⟨a0, a1, a2, a3, a4, a5⟩ := val_facts HA.out.2.1
  obtain ⟨b0, b1, b2, b3, b4, b5⟩ := val_facts HA.out.2.2.1
  dsimp only at a0 a1 a2 a3 a4 a5 b0 b1 b2 b3 b4 b5
  have HP := hid (fun W g1 g2 => eqP_any pp pc' pp2 pc2 ps ps' W g1 g2 hl)
  have HI := hid (fun W g1 g2 => eqT_any ip ic ip2 ic2 is is' W g1 g2 hli)
  have H1 := hid h1
  have H2 := hid h2
  clear h1 h2
  by_cases ek : k = k'
  · by_cases et : t = t'
    · by_cases ex : x = x'
      · by_cases ey : y = y'
        · have e4 : (k == k') = true := beq_iff_eq.2 ek
          have e3 : (t == t') = true := beq_iff_eq.2 et
          have e2 : (x == x') = true := beq_iff_eq.2 ex
          have e1 : (y == y') = true := beq_iff_eq.2 ey
          subst ek et ex ey
          by_cases ep : ps = ps'
          · have HPs := hid ep
            rw [decide_eq_true ep] at HP
            have hVV : V = decide (is = is') := by
              by_cases e : is = is'
              · rw [decide_eq_true e]; exact HV.out.2 ⟨rfl, rfl, ep, e, rfl, rfl⟩
              · rw [decide_eq_false e]
                cases V with
                | false => rfl
                | true => exact absurd (HV.out.1 rfl).2.2.2.1 e
            rw [← hVV] at HI
            clear hVV ep
            go_enter Tryz.func235, Tryz.ntmps235
            go_wp2_with fail
            refine (HP.out _ (H1.out.below HA.out.1).pairs.prs (H2.out.below HA.out.1).pairs.prs).mono ?_; rintro e w2 ⟨rfl, hh⟩
            have HX := hid ((hh.out.block w.heap.size (by simp; omega)).trans HA.out.2.1)
            have HY := hid ((hh.out.block (w.heap.size + 1) (by simp)).trans HA.out.2.2.1)
            have HW2 := hid (HA.out.1.trans (hh.out.mono HA.out.1.size))
            clear hh a0 a1 a2 a3 a4 a5 b0 b1 b2 b3 b4 b5
            obtain ⟨a0, a1, a2, a3, a4, a5⟩ := val_facts HX.out
            obtain ⟨b0, b1, b2, b3, b4, b5⟩ := val_facts HY.out
            dsimp only at a0 a1 a2 a3 a4 a5 b0 b1 b2 b3 b4 b5
            go_wp2_with fail
            refine (HI.out _ (H1.out.below HW2.out).items.strs (H2.out.below HW2.out).items.strs).mono ?_; rintro e w3 ⟨rfl, hh⟩
            have HW3 := hid (HW2.out.trans (hh.out.mono HW2.out.size))
            clear hh
            go_wp2_with fail
            go_ret
            exact ⟨rfl, HW3.out⟩
          · obtain rfl : V = false := by
              cases V with
              | false => rfl
              | true => exact absurd (HV.out.1 rfl).2.2.1 ep
            rw [decide_eq_false ep] at HP
            clear ep
            go_enter Tryz.func235, Tryz.ntmps235
            go_wp2_with fail
            refine (HP.out _ (H1.out.below HA.out.1).pairs.prs (H2.out.below HA.out.1).pairs.prs).mono ?_; rintro e w2 ⟨rfl, hh⟩
            have HW2 := hid (HA.out.1.trans (hh.out.mono HA.out.1.size))
            clear hh
            go_wp2_with fail
            go_ret
            exact ⟨rfl, HW2.out⟩
        · obtain rfl : V = false := by
            cases V with
            | false => rfl
            | true => exact absurd (HV.out.1 rfl).2.2.2.2.2 ey
          have e4 : (k == k') = true := beq_iff_eq.2 ek
          have e3 : (t == t') = true := beq_iff_eq.2 et
          have e2 : (x == x') = true := beq_iff_eq.2 ex
          have e1 : (y == y') = false := beq_eq_false_iff_ne.2 ey
          clear ey ex et ek
          go_enter Tryz.func235, Tryz.ntmps235
          go_wp2_with fail
          go_ret
          exact ⟨rfl, HA.out.1⟩
      · obtain rfl : V = false := by
          cases V with
          | false => rfl
          | true => exact absurd (HV.out.1 rfl).2.2.2.2.1 ex
        have e4 : (k == k') = true := beq_iff_eq.2 ek
        have e3 : (t == t') = true := beq_iff_eq.2 et
        have e2 : (x == x') = false := beq_eq_false_iff_ne.2 ex
        clear ex et ek
        go_enter Tryz.func235, Tryz.ntmps235
        go_wp2_with fail
        go_ret
        exact ⟨rfl, HA.out.1⟩
    · obtain rfl : V = false := by
        cases V with
        | false => rfl
        | true => exact absurd (HV.out.1 rfl).2.1 et
      have e4 : (k == k') = true := beq_iff_eq.2 ek
      have e3 : (t == t') = false := beq_eq_false_iff_ne.2 et
      clear et ek
      go_enter Tryz.func235, Tryz.ntmps235
      go_wp2_with fail
      go_ret
      exact ⟨rfl, HA.out.1⟩
  · obtain rfl : V = false := by
      cases V with
      | false => rfl
      | true => exact absurd (HV.out.1 rfl).1 ek
    have e4 : (k == k') = false := beq_eq_false_iff_ne.2 ek
    clear ek
    go_enter Tryz.func235, Tryz.ntmps235
    go_wp2_with fail
    go_ret
    exact ⟨rfl, HA.out.1⟩
/-- Same -/
theorem psame_any (a b : Vl) (pp : Option Addr) (pc' : Nat) (ip : Option Addr) (ic : Nat) (pp2 : Option Addr) (pc2 : Nat) (ip2 : Option Addr) (ic2 : Nat) (w : World) (h1 : VI w a pp pc' ip ic) (h2 : VI w b pp2 pc2 ip2 ic2) (hl : a.pairs.length ≤ 140737488351232) (hli : a.items.length ≤ 140737488351232) :
    Calls Tryz.prog 235 #[vv a pp pc' ip ic, vv b pp2 pc2 ip2 ic2] w fun e w' => e = .returned (.bool (decide (a = b))) ∧ Hid (Below w.heap.size w w') := by
  have hV : Hid (decide (a = b) = true ↔ _) := (decide_eq_true_iff (p := a = b)).trans vl_ext
  obtain ⟨k, t, ps, is, x, y⟩ := a
  obtain ⟨k', t', ps', is', x', y'⟩ := b
  exact psame_core k t ps is x y k' t' ps' is' x' y' pp pc' ip ic pp2 pc2 ip2 ic2 w h1 h2 hl hli _ hV

end Go.Proofs.YtcbncdigejjcpaaGreatDoor

namespace Go.Proofs.YtcbncdigejjcpaaGreatDoor
open Go.RowKit

theorem pmany_any (n : Int) (w : World) : Calls Tryz.prog 270 #[.int .i64 n] w fun e w' => e = .returned (.bool (decide (1 ≤ n ∧ n ≤ 256))) ∧ w' = w := by
  by_cases h1 : 1 ≤ n
  · by_cases h2 : n ≤ 256
    · rw [decide_eq_true ⟨h1, h2⟩]
      go_enter Tryz.func270, Tryz.ntmps270
      go_wp2_with fail
      go_ret
      exact ⟨rfl, rfl⟩
    · rw [decide_eq_false (fun h => h2 h.2)]
      go_enter Tryz.func270, Tryz.ntmps270
      go_wp2_with fail
      go_ret
      exact ⟨rfl, rfl⟩
  · rw [decide_eq_false (fun h => h1 h.1)]
    go_enter Tryz.func270, Tryz.ntmps270
    go_wp2_with fail
    go_ret
    exact ⟨rfl, rfl⟩
theorem ppart_any (n : Int) (w : World) : Calls Tryz.prog 216 #[.int .i64 n] w fun e w' => e = .returned (.bool (decide (-1048576 ≤ n ∧ n ≤ 1048576))) ∧ w' = w := by
  by_cases h1 : -1048576 ≤ n
  · by_cases h2 : n ≤ 1048576
    · rw [decide_eq_true ⟨h1, h2⟩]
      go_enter Tryz.func216, Tryz.ntmps216
      go_wp2_with fail
      go_ret
      exact ⟨rfl, rfl⟩
    · rw [decide_eq_false (fun h => h2 h.2)]
      go_enter Tryz.func216, Tryz.ntmps216
      go_wp2_with fail
      go_ret
      exact ⟨rfl, rfl⟩
  · rw [decide_eq_false (fun h => h1 h.1)]
    go_enter Tryz.func216, Tryz.ntmps216
    go_wp2_with fail
    go_ret
    exact ⟨rfl, rfl⟩
/-- point.Right -/
theorem ptright_any (x y : Int) (w : World) : Calls Tryz.prog 176 #[pv x y] w fun e w' => e = .returned (.bool (rtB x y)) ∧ Hid (Below w.heap.size w w') := by
  have e : rtB x y = (decide (-1048576 ≤ x ∧ x ≤ 1048576) && decide (-1048576 ≤ y ∧ y ≤ 1048576)) := by
    rw [Bool.eq_iff_iff, rtB_iff, Bool.and_eq_true, decide_eq_true_iff, decide_eq_true_iff]; unfold rtP; omega
  rw [e]
  have H1 := hid (ppart_any x)
  have H2 := hid (ppart_any y)
  generalize decide (-1048576 ≤ x ∧ x ≤ 1048576) = X at *
  generalize decide (-1048576 ≤ y ∧ y ≤ 1048576) = Y at *
  have HB := hid (below_alloc w (pc x y))
  have HX := hid (heap_alloc_new w (pc x y))
  obtain ⟨c0, c1⟩ := pt_cells HX.out
  cases X with
  | false =>
    go_enter Tryz.func176, Tryz.ntmps176
    go_wp2_with fail
    refine (H1.out _).mono ?_; rintro e w' ⟨rfl, rfl⟩
    go_wp2_with fail
    go_ret
    exact ⟨rfl, HB.out⟩
  | true =>
    go_enter Tryz.func176, Tryz.ntmps176
    go_wp2_with fail
    refine (H1.out _).mono ?_; rintro e w' ⟨rfl, rfl⟩
    go_wp2_with fail
    refine (H2.out _).mono ?_; rintro e w' ⟨rfl, rfl⟩
    go_wp2_with fail
    go_ret
    exact ⟨rfl, HB.out⟩
set_option maxHeartbeats 2000000 in
set_option maxRecDepth 100000 in
/-- sets.Right -/
theorem seright_any (p : Option Addr) (c : Nat) (l : Row) (w : World) (h : Strs w p l) (hl : l.length ≤ 140737488351232) :
    Calls Tryz.prog 233 #[.slice p l.length c] w fun e w' => e = .returned (.bool (risB l)) ∧ Hid (Below w.heap.size w w') := by
  have H := hid h
  have hlz : (l.length : Int) ≤ 140737488351232 := by omega
  obtain ⟨V, hV⟩ : ∃ V, V = risB l := ⟨_, rfl⟩
  rw [← hV]
  have HV := hid hV
  clear h hV
  go_enter Tryz.func233, Tryz.ntmps233
  go_wp2_with fail
  go_loopw [3] (fun v3 W => ∃ k : Nat, v3 = .int .i64 k ∧ 1 ≤ k ∧ k ≤ l.length + 1 ∧ Hid (Ris (l.take k)) ∧ Hid (Below w.heap.size w W)) (fun v3 _ => l.length - (intOf v3).toNat)
  case atStart => exact ⟨1, rfl, by decide, by omega, by
    cases l with
    | nil => exact Ris.nil
    | cons x r => exact List.pairwise_singleton _ _, Below.refl _ _⟩
  case round =>
    obtain ⟨k, rfl, hk1, hk, HK, HW⟩ := hrel
    by_cases hlt : k < l.length
    · obtain ⟨i, rfl⟩ : ∃ i, k = i + 1 := ⟨k - 1, by omega⟩
      have hkz : ((i + 1 : Nat) : Int) < (l.length : Int) := by omega
      obtain ⟨b, o, rfl, hc⟩ := H.out (fun e => by rw [e] at hlt; simp at hlt)
      have hbl : b < w.heap.size := block_lt_of_cell (hc (i + 1) hlt)
      have x0 := cell_turn (hc i (by omega)) (HW.out.block b hbl)
      have x1 := cell_turn (hc (i + 1) hlt) (HW.out.block b hbl)
      have hsub : ((i + 1 : Nat) : Int) - 1 = (i : Int) := by omega
      by_cases e : l[i] < l[i + 1]
      · have HK2 := hid (ris_take hlt HK.out e)
        have hbl2 : Op.bytesLess l[i] l[i + 1] = true := by rw [bytesLess_eq]; exact decide_eq_true e
        generalize l[i] = t at *
        generalize l[i + 1] = u at *
        clear hc e
        go_wp2_with fail
        go_quiet (fail)
        go_wp2_with fail
        exact ⟨⟨i + 1 + 1, by go_num, by omega, by omega, HK2.out, by first | exact HW.out | exact HW.out.drew | exact below_redrawn HW.out _⟩, by simp [intOf]; omega⟩
      · have HN : Hid (V = false) := HV.out.trans (risB_no fun h => e (ris_at h (Nat.lt_succ_self i) hlt))
        have hbl2 : Op.bytesLess l[i] l[i + 1] = false := by rw [bytesLess_eq]; exact decide_eq_false e
        obtain rfl := HN.out
        generalize l[i] = t at *
        generalize l[i + 1] = u at *
        clear hc e
        go_wp2_with fail
        go_quiet (fail)
        go_wp2_with fail
        go_ret
        exact ⟨rfl, by first | exact HW.out | exact HW.out.drew | exact below_redrawn HW.out _⟩
    · have HF : Hid (V = true) := HV.out.trans (risB_yes (by have := HK.out; rw [List.take_of_length_le (by omega)] at this; exact this))
      obtain rfl := HF.out
      go_wp2_with fail
      go_ret
      exact ⟨rfl, HW.out⟩
set_option maxHeartbeats 1000000 in
set_option maxRecDepth 100000 in
/-- rightItems -/
theorem pitems_any (p : Option Addr) (c : Nat) (l : Row) (w : World) (h : Strs w p l) (hl : l.length ≤ 140737488351232) (ht : ∀ x ∈ l, x.length ≤ 140737488351232) :
    Calls Tryz.prog 234 #[.slice p l.length c] w fun e w' => e = .returned (.bool (fitsB l)) ∧ w' = w := by
  have H := hid h
  have HT := hid ht
  have hlz : (l.length : Int) ≤ 140737488351232 := by omega
  obtain ⟨V, hV⟩ : ∃ V, V = fitsB l := ⟨_, rfl⟩
  rw [← hV]
  have HV := hid hV
  have HM := hid (pmany_any (l.length : Int))
  clear h ht hV
  go_enter Tryz.func234, Tryz.ntmps234
  go_wp2_with fail
  go_loopw [4, 7] (fun _ v7 W => ∃ k : Nat, v7 = .int .i64 k ∧ k ≤ l.length ∧ Hid (∀ x ∈ l.take k, x.length ≤ 1024) ∧ W = w) (fun _ v7 _ => l.length - (intOf v7).toNat)
  case atStart => exact ⟨0, rfl, Nat.zero_le _, by simp [Hid], rfl⟩
  case round =>
    obtain ⟨k, rfl, hk, HK, rfl⟩ := hrel
    by_cases hlt : k < l.length
    · have hkz : (k : Int) < (l.length : Int) := by omega
      obtain ⟨b, o, rfl, hc⟩ := H.out (fun e => by rw [e] at hlt; simp at hlt)
      have x0 := hc k hlt
      have HS : Hid (l.take (k + 1) = l.take k ++ [l[k]]) := List.take_succ_eq_append_getElem hlt
      have HIn : Hid (l[k] ∈ l) := List.getElem_mem hlt
      have hxl := HT.out _ HIn.out
      generalize l[k] = t at *
      clear hc
      have hxz : (t.length : Int) ≤ 140737488351232 := by omega
      by_cases e : (1024 : Int) < (t.length : Int)
      · obtain rfl : V = false := HV.out.trans (fitsB_no fun h => absurd (h.1 _ HIn.out) (by omega))
        go_wp2_with fail
        go_ret
        exact ⟨rfl, rfl⟩
      · have HK2 : Hid (∀ x ∈ l.take (k + 1), x.length ≤ 1024) := by
          show ∀ x ∈ l.take (k + 1), _
          rw [HS.out]
          intro x hx
          rcases List.mem_append.1 hx with hx | hx
          · exact HK.out x hx
          · rw [List.mem_singleton.1 hx]; omega
        go_wp2_with fail
        exact ⟨⟨k + 1, by go_num, by omega, HK2.out, trivial⟩, by simp [intOf]; omega⟩
    · have HA : Hid (∀ x ∈ l, x.length ≤ 1024) := by have := HK.out; rwa [List.take_of_length_le (by omega)] at this
      have HVV : Hid (V = decide (1 ≤ (l.length : Int) ∧ (l.length : Int) ≤ 256)) := by
        rw [Hid, HV.out, Bool.eq_iff_iff, fitsB_iff, decide_eq_true_iff]
        exact ⟨fun h => ⟨by have := h.2.1; omega, by have := h.2.2; omega⟩, fun h => ⟨HA.out, by omega, by omega⟩⟩
      rw [← HVV.out] at HM
      clear HV HVV
      go_wp2_with fail
      refine (HM.out _).mono ?_; rintro e w' ⟨rfl, rfl⟩
      go_wp2_with fail
      go_ret
      exact ⟨rfl, rfl⟩
set_option maxHeartbeats 2000000 in
set_option maxRecDepth 100000 in
/-- rightPairs -/
theorem ppairs_any (p : Option Addr) (c : Nat) (l : List (Nm × Nm)) (w : World) (h : Prs w p l) (hl : l.length ≤ 140737488351232) (h1 : ∀ x ∈ l.map (·.1), x.length ≤ 140737488351232) (h2 : ∀ x ∈ l.map (·.2), x.length ≤ 140737488351232) :
    Calls Tryz.prog 232 #[.slice p l.length c] w fun e w' => e = .returned (.bool (rpB l)) ∧ Hid (Below w.heap.size w w') := by
  have H := hid h
  have HT1 := hid h1
  have HT2 := hid h2
  have hlz : (l.length : Int) ≤ 140737488351232 := by omega
  obtain ⟨V, hV⟩ : ∃ V, V = rpB l := ⟨_, rfl⟩
  rw [← hV]
  have HV := hid hV
  have HM := hid (pmany_any (l.length : Int))
  clear h h1 h2 hV
  by_cases hm : 1 ≤ (l.length : Int) ∧ (l.length : Int) ≤ 256
  · rw [decide_eq_true hm] at HM
    have HB := hid (Below.refl w.heap.size w)
    go_enter Tryz.func232, Tryz.ntmps232
    go_wp2_with fail
    refine (HM.out _).mono ?_; rintro e w' ⟨rfl, rfl⟩
    go_wp2_with fail
    go_loopw [3, 5, 12] (fun v3 _ v12 W => ∃ (k : Nat) (q : Option Addr) (d : Nat), v12 = .int .i64 k ∧ v3 = .slice q k d ∧ k ≤ l.length ∧ Hid (∀ x ∈ (l.take k).map (·.1), x.length ≤ 1024) ∧ Hid (∀ x ∈ (l.take k).map (·.2), x.length ≤ 1024) ∧ Hid (Own w'.heap.size W (.slice q k d) ((l.take k).map (·.1))) ∧ Hid (Below w'.heap.size w' W)) (fun _ _ v12 _ => l.length - (intOf v12).toNat)
    case atStart => exact ⟨0, none, 0, rfl, rfl, Nat.zero_le _, by simp [Hid], by simp [Hid], World.ownsRow_nil _ _ _ _, HB.out⟩
    case round =>
      obtain ⟨k, q, d, rfl, rfl, hk, HK1, HK2, HO, HW⟩ := hrel
      have hml : ((l.take k).map (·.1)).length = k := by simp; omega
      by_cases hlt : k < l.length
      · have hkz : (k : Int) < (l.length : Int) := by omega
        obtain ⟨b, o, rfl, hc⟩ := H.out (fun e => by rw [e] at hlt; simp at hlt)
        have x0 := cell_turn (hc k hlt).1 (HW.out.block b (block_lt_of_cell (hc k hlt).1))
        have x1 := cell_turn (hc k hlt).2 (HW.out.block b (block_lt_of_cell (hc k hlt).1))
        have HS : Hid (l.take (k + 1) = l.take k ++ [l[k]]) := List.take_succ_eq_append_getElem hlt
        have HI1 : Hid (l[k].1 ∈ l.map (·.1)) := List.mem_map_of_mem (List.getElem_mem hlt)
        have HI2 : Hid (l[k].2 ∈ l.map (·.2)) := List.mem_map_of_mem (List.getElem_mem hlt)
        have hx1 := HT1.out _ HI1.out
        have hx2 := HT2.out _ HI2.out
        generalize l[k] = tu at *
        obtain ⟨t, u⟩ := tu
        dsimp only at *
        have hz1 : (t.length : Int) ≤ 140737488351232 := by omega
        have hz2 : (u.length : Int) ≤ 140737488351232 := by omega
        have hal := below_alloc wr (.cells #[txt t, txt u] 102)
        have HP := hid (heap_alloc_new wr (.cells #[txt t, txt u] 102))
        have HWa := hid (HW.out.trans (hal.mono HW.out.size))
        have y0 := cell_of_row _ wr.heap.size 0 _ _ _ HP.out
        have y1 := cell_of_row _ wr.heap.size 1 _ _ _ HP.out
        clear hc
        by_cases e1 : (1024 : Int) < (t.length : Int)
        · obtain rfl : V = false := HV.out.trans (rpB_no fun h => absurd (h.1.1 _ HI1.out) (by omega))
          clear hml hal
          go_wp2_with fail
          go_ret
          exact ⟨rfl, HWa.out⟩
        · by_cases e2 : (1024 : Int) < (u.length : Int)
          · obtain rfl : V = false := HV.out.trans (rpB_no fun h => absurd (h.2.2.1 _ HI2.out) (by omega))
            clear hml hal
            go_wp2_with fail
            go_ret
            exact ⟨rfl, HWa.out⟩
          · have HK1' : Hid (∀ x ∈ (l.take (k + 1)).map (·.1), x.length ≤ 1024) := by
              show ∀ x ∈ (l.take (k + 1)).map (·.1), _
              rw [HS.out, List.map_append]
              intro x hx
              rcases List.mem_append.1 hx with hx | hx
              · exact HK1.out x hx
              · have : x = t := by simpa using hx
                rw [this]; omega
            have HK2' : Hid (∀ x ∈ (l.take (k + 1)).map (·.2), x.length ≤ 1024) := by
              show ∀ x ∈ (l.take (k + 1)).map (·.2), _
              rw [HS.out, List.map_append]
              intro x hx
              rcases List.mem_append.1 hx with hx | hx
              · exact HK2.out x hx
              · have : x = u := by simpa using hx
                rw [this]; omega
            have ho : Own w'.heap.size (wr.alloc (.cells #[txt t, txt u] 102)) (.slice q k d) ((l.take k).map (·.1)) := owns_below HO.out hal
            obtain ⟨v2, W2, hrun, ho2, hb2⟩ := ho.push HWa.out.size t (by rw [hml]; omega)
            obtain ⟨q2, d2, rfl, -⟩ := ho2.shape
            have hl2 : ((l.take k).map (·.1) ++ [t]).length = k + 1 := by rw [List.length_append, hml]; rfl
            rw [hl2] at hrun ho2
            rw [show (wr.alloc (.cells #[txt t, txt u] 102)).heap.size = wr.heap.size + 1 by simp] at hrun
            have HE : Hid ((l.take (k + 1)).map (·.1) = (l.take k).map (·.1) ++ [t]) := by rw [Hid, HS.out, List.map_append]; rfl
            have HR2 := hid hrun
            have HO2 : Hid (Own w'.heap.size W2 (.slice q2 (k + 1) d2) ((l.take (k + 1)).map (·.1))) := by
              rw [Hid, HE.out]; exact ho2
            have HW2 := hid (HWa.out.trans hb2)
            clear hrun ho2 hb2 hl2 ho hml hal
            go_wp2_with (refine wpList_append_runs rfl _ _ 23 23 rfl _ _ _ _ rfl rfl HR2.out (Hid.out ?_))
            refine hid ?_
            go_wp2_with fail
            exact ⟨⟨k + 1, q2, d2, by go_num, rfl, by omega, HK1'.out, HK2'.out, HO2.out, HW2.out⟩, by simp [intOf]; omega⟩
      · obtain rfl : k = l.length := by omega
        have ho := HO.out
        have hk1 := HK1.out
        have hk2 := HK2.out
        rw [List.take_length] at ho hk1 hk2
        rw [List.take_length] at hml
        have HVV : Hid (V = risB (l.map (·.1))) := by
          rw [Hid, HV.out, Bool.eq_iff_iff, rpB_iff, risB_iff]
          exact ⟨fun h => h.2.1, fun h => ⟨⟨hk1, by rw [List.length_map]; omega, by rw [List.length_map]; omega⟩, h, ⟨hk2, by rw [List.length_map]; omega, by rw [List.length_map]; omega⟩⟩⟩
        have HSR := hid (seright_any q d (l.map (·.1)) wr ho.rd.strs (by rw [hml]; omega))
        rw [← HVV.out, hml] at HSR
        clear HVV ho hk1 hk2 hml
        go_wp2_with fail
        refine HSR.out.mono ?_; rintro e w3 ⟨rfl, hh⟩
        have HW3 := hid (HW.out.trans (hh.out.mono HW.out.size))
        clear hh
        go_wp2_with fail
        go_ret
        exact ⟨rfl, HW3.out⟩
  · rw [decide_eq_false hm] at HM
    obtain rfl : V = false := HV.out.trans (rpB_no fun h => hm (by have h1 := h.1.2.1; have h2 := h.1.2.2; rw [List.length_map] at h1 h2; omega))
    clear hm
    go_enter Tryz.func232, Tryz.ntmps232
    go_wp2_with fail
    refine (HM.out _).mono ?_; rintro e w' ⟨rfl, rfl⟩
    go_wp2_with fail
    go_ret
    exact ⟨rfl, Below.refl _ _⟩

end Go.Proofs.YtcbncdigejjcpaaGreatDoor

namespace Go.Proofs.YtcbncdigejjcpaaGreatDoor
open Go.RowKit

/-- what Right tells -/
def RightIs (m : Vl) (pp : Option Addr) (pc' : Nat) (ip : Option Addr) (ic : Nat) (w : World) : Prop :=
  Calls Tryz.prog 190 #[vv m pp pc' ip ic] w fun e w' => e = .returned (.bool (rightB m)) ∧ Hid (Below w.heap.size w w')
theorem pitems_b (p : Option Addr) (c : Nat) (l : Row) (w : World) (h : Strs w p l) (hl : l.length ≤ 140737488351232) (ht : ∀ x ∈ l, x.length ≤ 140737488351232) :
    Calls Tryz.prog 234 #[.slice p l.length c] w fun e w' => e = .returned (.bool (fitsB l)) ∧ Hid (Below w.heap.size w w') := by
  refine (pitems_any p c l w h hl ht).mono ?_
  rintro e w' ⟨rfl, rfl⟩
  exact ⟨rfl, Below.refl _ _⟩

set_option maxHeartbeats 4000000 in
set_option maxRecDepth 100000 in
theorem prt_1 (t : Nm) (ps : List (Nm × Nm)) (is : List Nm) (x y : Int) (pp : Option Addr) (pc' : Nat) (ip : Option Addr) (ic : Nat) (w : World) (hC : Came ⟨1, t, ps, is, x, y⟩) (hV : VI w ⟨1, t, ps, is, x, y⟩ pp pc' ip ic) : RightIs ⟨1, t, ps, is, x, y⟩ pp pc' ip ic w := by
  unfold RightIs
  rw [right1]
  obtain ⟨U, hU⟩ : ∃ U : Bool, U = decide ((⟨0, [], ps, is, x, y⟩ : Vl) = zeroV) := ⟨_, rfl⟩
  have HSm : Hid (∀ W, Below w.heap.size w W → Calls Tryz.prog 235 #[vv ⟨0, [], ps, is, x, y⟩ pp pc' ip ic, .agg #[.int .i64 0, .string ⟨#[]⟩, .slice none 0 0, .slice none 0 0, .int .i64 0, .int .i64 0]] W fun e w' => e = .returned (.bool U) ∧ Hid (Below W.heap.size W w')) := fun W hW => by
    rw [hU]
    exact psame_any ⟨0, [], ps, is, x, y⟩ zeroV pp pc' ip ic none 0 none 0 W ⟨(hV.below hW).pairs, (hV.below hW).items⟩ (VI.zero W) hC.pairs hC.items
  rw [← hU]
  have HA := hid (al_two w (vob ⟨1, t, ps, is, x, y⟩ pp pc' ip ic) (vob ⟨0, t, ps, is, x, y⟩ pp pc' ip ic))
  obtain ⟨a0, a1, a2, a3, a4, a5⟩ := val_facts HA.out.2.1
  obtain ⟨b0, b1, b2, b3, b4, b5⟩ := val_facts HA.out.2.2.1
  obtain ⟨f0, f1, f2, f3, f4, f5⟩ := val_frozen HA.out.2.2.1
  have HVI := hid hV
  have htl := hC.text
  dsimp only at htl
  have htz : (t.length : Int) ≤ 140737488351232 := by omega
  have HBl := hid (al_two w (vob ⟨1, t, ps, is, x, y⟩ pp pc' ip ic) (vob ⟨0, [], ps, is, x, y⟩ pp pc' ip ic)).1
  clear hV hU hC
  dsimp only at a0 a1 a2 a3 a4 a5 b0 b1 b2 b3 b4 b5
  by_cases hf : t.length ≤ 4096
  · have hfz : (t.length : Int) ≤ 4096 := by omega
    rw [decide_eq_true hf, Bool.true_and]
    clear hf htl
    go_enter Tryz.func190, Tryz.ntmps190
    go_wp2_with fail
    refine (HSm.out _ HBl.out).mono ?_; rintro e w2 ⟨rfl, hh⟩
    have HW2 := hid (HBl.out.trans (hh.out.mono HBl.out.size))
    clear hh
    go_wp2_with fail
    go_ret
    exact ⟨rfl, HW2.out⟩
  · have hfz : (4096 : Int) < (t.length : Int) := by omega
    rw [decide_eq_false hf, Bool.false_and]
    clear hf htl
    go_enter Tryz.func190, Tryz.ntmps190
    go_wp2_with fail
    go_ret
    exact ⟨rfl, HBl.out⟩
set_option maxHeartbeats 4000000 in
set_option maxRecDepth 100000 in
theorem prt_2 (t : Nm) (ps : List (Nm × Nm)) (is : List Nm) (x y : Int) (pp : Option Addr) (pc' : Nat) (ip : Option Addr) (ic : Nat) (w : World) (hC : Came ⟨2, t, ps, is, x, y⟩) (hV : VI w ⟨2, t, ps, is, x, y⟩ pp pc' ip ic) : RightIs ⟨2, t, ps, is, x, y⟩ pp pc' ip ic w := by
  unfold RightIs
  rw [right2]
  obtain ⟨U, hU⟩ : ∃ U : Bool, U = decide ((⟨0, t, [], is, x, y⟩ : Vl) = zeroV) := ⟨_, rfl⟩
  have HSm : Hid (∀ W, Below w.heap.size w W → Calls Tryz.prog 235 #[vv ⟨0, t, [], is, x, y⟩ none 0 ip ic, .agg #[.int .i64 0, .string ⟨#[]⟩, .slice none 0 0, .slice none 0 0, .int .i64 0, .int .i64 0]] W fun e w' => e = .returned (.bool U) ∧ Hid (Below W.heap.size W w')) := fun W hW => by
    rw [hU]
    exact psame_any ⟨0, t, [], is, x, y⟩ zeroV none 0 ip ic none 0 none 0 W ⟨(Rp.nilRow W), (hV.below hW).items⟩ (VI.zero W) (by simp) hC.items
  rw [← hU]
  have HA := hid (al_two w (vob ⟨2, t, ps, is, x, y⟩ pp pc' ip ic) (vob ⟨0, t, ps, is, x, y⟩ pp pc' ip ic))
  obtain ⟨a0, a1, a2, a3, a4, a5⟩ := val_facts HA.out.2.1
  obtain ⟨b0, b1, b2, b3, b4, b5⟩ := val_facts HA.out.2.2.1
  obtain ⟨f0, f1, f2, f3, f4, f5⟩ := val_frozen HA.out.2.2.1
  have HVI := hid hV
  have HP := hid (fun W (hW : Below w.heap.size w W) => ppairs_any pp pc' ps W (HVI.out.below hW).pairs.prs hC.pairs hC.names hC.values)
  clear hV hU hC
  dsimp only at a0 a1 a2 a3 a4 a5 b0 b1 b2 b3 b4 b5
  cases hF : rpB ps with
  | true =>
    rw [hF] at HP
    rw [Bool.true_and]
    clear hF
    go_enter Tryz.func190, Tryz.ntmps190
    go_wp2_with fail
    refine (HP.out _ HA.out.1).mono ?_; rintro e w2 ⟨rfl, hh⟩
    have HX2 := hid ((hh.out.block w.heap.size (by simp; omega)).trans HA.out.2.1)
    have HY2 := hid ((hh.out.block (w.heap.size + 1) (by simp)).trans HA.out.2.2.1)
    have HW2 := hid (HA.out.1.trans (hh.out.mono HA.out.1.size))
    clear hh a0 a1 a2 a3 a4 a5 b0 b1 b2 b3 b4 b5 f0 f1 f2 f3 f4 f5
    obtain ⟨a0, a1, a2, a3, a4, a5⟩ := val_facts HX2.out
    obtain ⟨b0, b1, b2, b3, b4, b5⟩ := val_facts HY2.out
    obtain ⟨f0, f1, f2, f3, f4, f5⟩ := val_frozen HY2.out
    dsimp only at a0 a1 a2 a3 a4 a5 b0 b1 b2 b3 b4 b5
    have HW3 := hid (HW2.out.setCell (p := ⟨w.heap.size + 1, 2, none⟩) (by simp) (.slice none 0 0))
    go_wp2_with fail
    refine (HSm.out _ HW3.out).mono ?_; rintro e w3 ⟨rfl, hh⟩
    have HW4 := hid (HW3.out.trans (hh.out.mono HW3.out.size))
    clear hh
    go_wp2_with fail
    go_ret
    exact ⟨rfl, HW4.out⟩
  | false =>
    rw [hF] at HP
    rw [Bool.false_and]
    clear hF
    go_enter Tryz.func190, Tryz.ntmps190
    go_wp2_with fail
    refine (HP.out _ HA.out.1).mono ?_; rintro e w2 ⟨rfl, hh⟩
    have HX2 := hid ((hh.out.block w.heap.size (by simp; omega)).trans HA.out.2.1)
    have HY2 := hid ((hh.out.block (w.heap.size + 1) (by simp)).trans HA.out.2.2.1)
    have HW2 := hid (HA.out.1.trans (hh.out.mono HA.out.1.size))
    clear hh a0 a1 a2 a3 a4 a5 b0 b1 b2 b3 b4 b5 f0 f1 f2 f3 f4 f5
    obtain ⟨a0, a1, a2, a3, a4, a5⟩ := val_facts HX2.out
    obtain ⟨b0, b1, b2, b3, b4, b5⟩ := val_facts HY2.out
    obtain ⟨f0, f1, f2, f3, f4, f5⟩ := val_frozen HY2.out
    dsimp only at a0 a1 a2 a3 a4 a5 b0 b1 b2 b3 b4 b5
    have HW3 := hid (HW2.out.setCell (p := ⟨w.heap.size + 1, 2, none⟩) (by simp) (.slice none 0 0))
    go_wp2_with fail
    go_ret
    exact ⟨rfl, HW3.out⟩
set_option maxHeartbeats 4000000 in
set_option maxRecDepth 100000 in
theorem prt_3 (t : Nm) (ps : List (Nm × Nm)) (is : List Nm) (x y : Int) (pp : Option Addr) (pc' : Nat) (ip : Option Addr) (ic : Nat) (w : World) (hC : Came ⟨3, t, ps, is, x, y⟩) (hV : VI w ⟨3, t, ps, is, x, y⟩ pp pc' ip ic) : RightIs ⟨3, t, ps, is, x, y⟩ pp pc' ip ic w := by
  unfold RightIs
  rw [right3]
  obtain ⟨U, hU⟩ : ∃ U : Bool, U = decide ((⟨0, t, ps, [], x, y⟩ : Vl) = zeroV) := ⟨_, rfl⟩
  have HSm : Hid (∀ W, Below w.heap.size w W → Calls Tryz.prog 235 #[vv ⟨0, t, ps, [], x, y⟩ pp pc' none 0, .agg #[.int .i64 0, .string ⟨#[]⟩, .slice none 0 0, .slice none 0 0, .int .i64 0, .int .i64 0]] W fun e w' => e = .returned (.bool U) ∧ Hid (Below W.heap.size W w')) := fun W hW => by
    rw [hU]
    exact psame_any ⟨0, t, ps, [], x, y⟩ zeroV pp pc' none 0 none 0 none 0 W ⟨(hV.below hW).pairs, (Rd.nilRow W)⟩ (VI.zero W) hC.pairs (by simp)
  rw [← hU]
  have HA := hid (al_two w (vob ⟨3, t, ps, is, x, y⟩ pp pc' ip ic) (vob ⟨0, t, ps, is, x, y⟩ pp pc' ip ic))
  obtain ⟨a0, a1, a2, a3, a4, a5⟩ := val_facts HA.out.2.1
  obtain ⟨b0, b1, b2, b3, b4, b5⟩ := val_facts HA.out.2.2.1
  obtain ⟨f0, f1, f2, f3, f4, f5⟩ := val_frozen HA.out.2.2.1
  have HVI := hid hV
  have HP := hid (fun W (hW : Below w.heap.size w W) => pitems_b ip ic is W (HVI.out.below hW).items.strs hC.items hC.texts)
  clear hV hU hC
  dsimp only at a0 a1 a2 a3 a4 a5 b0 b1 b2 b3 b4 b5
  cases hF : fitsB is with
  | true =>
    rw [hF] at HP
    rw [Bool.true_and]
    clear hF
    go_enter Tryz.func190, Tryz.ntmps190
    go_wp2_with fail
    refine (HP.out _ HA.out.1).mono ?_; rintro e w2 ⟨rfl, hh⟩
    have HX2 := hid ((hh.out.block w.heap.size (by simp; omega)).trans HA.out.2.1)
    have HY2 := hid ((hh.out.block (w.heap.size + 1) (by simp)).trans HA.out.2.2.1)
    have HW2 := hid (HA.out.1.trans (hh.out.mono HA.out.1.size))
    clear hh a0 a1 a2 a3 a4 a5 b0 b1 b2 b3 b4 b5 f0 f1 f2 f3 f4 f5
    obtain ⟨a0, a1, a2, a3, a4, a5⟩ := val_facts HX2.out
    obtain ⟨b0, b1, b2, b3, b4, b5⟩ := val_facts HY2.out
    obtain ⟨f0, f1, f2, f3, f4, f5⟩ := val_frozen HY2.out
    dsimp only at a0 a1 a2 a3 a4 a5 b0 b1 b2 b3 b4 b5
    have HW3 := hid (HW2.out.setCell (p := ⟨w.heap.size + 1, 3, none⟩) (by simp) (.slice none 0 0))
    go_wp2_with fail
    refine (HSm.out _ HW3.out).mono ?_; rintro e w3 ⟨rfl, hh⟩
    have HW4 := hid (HW3.out.trans (hh.out.mono HW3.out.size))
    clear hh
    go_wp2_with fail
    go_ret
    exact ⟨rfl, HW4.out⟩
  | false =>
    rw [hF] at HP
    rw [Bool.false_and]
    clear hF
    go_enter Tryz.func190, Tryz.ntmps190
    go_wp2_with fail
    refine (HP.out _ HA.out.1).mono ?_; rintro e w2 ⟨rfl, hh⟩
    have HX2 := hid ((hh.out.block w.heap.size (by simp; omega)).trans HA.out.2.1)
    have HY2 := hid ((hh.out.block (w.heap.size + 1) (by simp)).trans HA.out.2.2.1)
    have HW2 := hid (HA.out.1.trans (hh.out.mono HA.out.1.size))
    clear hh a0 a1 a2 a3 a4 a5 b0 b1 b2 b3 b4 b5 f0 f1 f2 f3 f4 f5
    obtain ⟨a0, a1, a2, a3, a4, a5⟩ := val_facts HX2.out
    obtain ⟨b0, b1, b2, b3, b4, b5⟩ := val_facts HY2.out
    obtain ⟨f0, f1, f2, f3, f4, f5⟩ := val_frozen HY2.out
    dsimp only at a0 a1 a2 a3 a4 a5 b0 b1 b2 b3 b4 b5
    have HW3 := hid (HW2.out.setCell (p := ⟨w.heap.size + 1, 3, none⟩) (by simp) (.slice none 0 0))
    go_wp2_with fail
    go_ret
    exact ⟨rfl, HW3.out⟩
set_option maxHeartbeats 4000000 in
set_option maxRecDepth 100000 in
theorem prt_4 (t : Nm) (ps : List (Nm × Nm)) (is : List Nm) (x y : Int) (pp : Option Addr) (pc' : Nat) (ip : Option Addr) (ic : Nat) (w : World) (hC : Came ⟨4, t, ps, is, x, y⟩) (hV : VI w ⟨4, t, ps, is, x, y⟩ pp pc' ip ic) : RightIs ⟨4, t, ps, is, x, y⟩ pp pc' ip ic w := by
  unfold RightIs
  rw [right4]
  obtain ⟨U, hU⟩ : ∃ U : Bool, U = decide ((⟨0, t, ps, [], x, y⟩ : Vl) = zeroV) := ⟨_, rfl⟩
  have HSm : Hid (∀ W, Below w.heap.size w W → Calls Tryz.prog 235 #[vv ⟨0, t, ps, [], x, y⟩ pp pc' none 0, .agg #[.int .i64 0, .string ⟨#[]⟩, .slice none 0 0, .slice none 0 0, .int .i64 0, .int .i64 0]] W fun e w' => e = .returned (.bool U) ∧ Hid (Below W.heap.size W w')) := fun W hW => by
    rw [hU]
    exact psame_any ⟨0, t, ps, [], x, y⟩ zeroV pp pc' none 0 none 0 none 0 W ⟨(hV.below hW).pairs, (Rd.nilRow W)⟩ (VI.zero W) hC.pairs (by simp)
  rw [← hU]
  have HA := hid (al_two w (vob ⟨4, t, ps, is, x, y⟩ pp pc' ip ic) (vob ⟨0, t, ps, is, x, y⟩ pp pc' ip ic))
  obtain ⟨a0, a1, a2, a3, a4, a5⟩ := val_facts HA.out.2.1
  obtain ⟨b0, b1, b2, b3, b4, b5⟩ := val_facts HA.out.2.2.1
  obtain ⟨f0, f1, f2, f3, f4, f5⟩ := val_frozen HA.out.2.2.1
  have HVI := hid hV
  have HP := hid (fun W (hW : Below w.heap.size w W) => pitems_b ip ic is W (HVI.out.below hW).items.strs hC.items hC.texts)
  have HQ := hid (fun W (hW : Below w.heap.size w W) => seright_any ip ic is W (HVI.out.below hW).items.strs hC.items)
  clear hV hU hC
  dsimp only at a0 a1 a2 a3 a4 a5 b0 b1 b2 b3 b4 b5
  cases hR : risB is with
  | false =>
    rw [hR] at HQ
    rw [Bool.false_and]
    clear hR
    go_enter Tryz.func190, Tryz.ntmps190
    go_wp2_with fail
    refine (HQ.out _ HA.out.1).mono ?_; rintro e w2 ⟨rfl, hh⟩
    have HW2 := hid (HA.out.1.trans (hh.out.mono HA.out.1.size))
    clear hh
    go_wp2_with fail
    go_ret
    exact ⟨rfl, HW2.out⟩
  | true =>
   rw [hR] at HQ
   rw [Bool.true_and]
   clear hR
   cases hF : fitsB is with
   | true =>
     rw [hF] at HP
     rw [Bool.true_and]
     clear hF
     go_enter Tryz.func190, Tryz.ntmps190
     go_wp2_with fail
     refine (HQ.out _ HA.out.1).mono ?_; rintro e w1 ⟨rfl, hh⟩
     have HX1 := hid ((hh.out.block w.heap.size (by simp; omega)).trans HA.out.2.1)
     have HY1 := hid ((hh.out.block (w.heap.size + 1) (by simp)).trans HA.out.2.2.1)
     have HW1 := hid (HA.out.1.trans (hh.out.mono HA.out.1.size))
     clear hh a0 a1 a2 a3 a4 a5 b0 b1 b2 b3 b4 b5 f0 f1 f2 f3 f4 f5
     obtain ⟨a0, a1, a2, a3, a4, a5⟩ := val_facts HX1.out
     obtain ⟨b0, b1, b2, b3, b4, b5⟩ := val_facts HY1.out
     obtain ⟨f0, f1, f2, f3, f4, f5⟩ := val_frozen HY1.out
     dsimp only at a0 a1 a2 a3 a4 a5 b0 b1 b2 b3 b4 b5
     go_wp2_with fail
     refine (HP.out _ HW1.out).mono ?_; rintro e w2 ⟨rfl, hh⟩
     have HX2 := hid ((hh.out.block w.heap.size (Array.getElem?_eq_some_iff.1 HX1.out).1).trans HX1.out)
     have HY2 := hid ((hh.out.block (w.heap.size + 1) (Array.getElem?_eq_some_iff.1 HY1.out).1).trans HY1.out)
     have HW2 := hid (HW1.out.trans (hh.out.mono HW1.out.size))
     clear hh a0 a1 a2 a3 a4 a5 b0 b1 b2 b3 b4 b5 f0 f1 f2 f3 f4 f5
     obtain ⟨a0, a1, a2, a3, a4, a5⟩ := val_facts HX2.out
     obtain ⟨b0, b1, b2, b3, b4, b5⟩ := val_facts HY2.out
     obtain ⟨f0, f1, f2, f3, f4, f5⟩ := val_frozen HY2.out
     dsimp only at a0 a1 a2 a3 a4 a5 b0 b1 b2 b3 b4 b5
     have HW3 := hid (HW2.out.setCell (p := ⟨w.heap.size + 1, 3, none⟩) (by simp) (.slice none 0 0))
     go_wp2_with fail
     refine (HSm.out _ HW3.out).mono ?_; rintro e w3 ⟨rfl, hh⟩
     have HW4 := hid (HW3.out.trans (hh.out.mono HW3.out.size))
     clear hh
     go_wp2_with fail
     go_ret
     exact ⟨rfl, HW4.out⟩
   | false =>
     rw [hF] at HP
     rw [Bool.false_and]
     clear hF
     go_enter Tryz.func190, Tryz.ntmps190
     go_wp2_with fail
     refine (HQ.out _ HA.out.1).mono ?_; rintro e w1 ⟨rfl, hh⟩
     have HX1 := hid ((hh.out.block w.heap.size (by simp; omega)).trans HA.out.2.1)
     have HY1 := hid ((hh.out.block (w.heap.size + 1) (by simp)).trans HA.out.2.2.1)
     have HW1 := hid (HA.out.1.trans (hh.out.mono HA.out.1.size))
     clear hh a0 a1 a2 a3 a4 a5 b0 b1 b2 b3 b4 b5 f0 f1 f2 f3 f4 f5
     obtain ⟨a0, a1, a2, a3, a4, a5⟩ := val_facts HX1.out
     obtain ⟨b0, b1, b2, b3, b4, b5⟩ := val_facts HY1.out
     obtain ⟨f0, f1, f2, f3, f4, f5⟩ := val_frozen HY1.out
     dsimp only at a0 a1 a2 a3 a4 a5 b0 b1 b2 b3 b4 b5
     go_wp2_with fail
     refine (HP.out _ HW1.out).mono ?_; rintro e w2 ⟨rfl, hh⟩
     have HX2 := hid ((hh.out.block w.heap.size (Array.getElem?_eq_some_iff.1 HX1.out).1).trans HX1.out)
     have HY2 := hid ((hh.out.block (w.heap.size + 1) (Array.getElem?_eq_some_iff.1 HY1.out).1).trans HY1.out)
     have HW2 := hid (HW1.out.trans (hh.out.mono HW1.out.size))
     clear hh a0 a1 a2 a3 a4 a5 b0 b1 b2 b3 b4 b5 f0 f1 f2 f3 f4 f5
     obtain ⟨a0, a1, a2, a3, a4, a5⟩ := val_facts HX2.out
     obtain ⟨b0, b1, b2, b3, b4, b5⟩ := val_facts HY2.out
     obtain ⟨f0, f1, f2, f3, f4, f5⟩ := val_frozen HY2.out
     dsimp only at a0 a1 a2 a3 a4 a5 b0 b1 b2 b3 b4 b5
     have HW3 := hid (HW2.out.setCell (p := ⟨w.heap.size + 1, 3, none⟩) (by simp) (.slice none 0 0))
     go_wp2_with fail
     go_ret
     exact ⟨rfl, HW3.out⟩
set_option maxHeartbeats 4000000 in
set_option maxRecDepth 100000 in
theorem prt_5 (t : Nm) (ps : List (Nm × Nm)) (is : List Nm) (x y : Int) (pp : Option Addr) (pc' : Nat) (ip : Option Addr) (ic : Nat) (w : World) (hC : Came ⟨5, t, ps, is, x, y⟩) (hV : VI w ⟨5, t, ps, is, x, y⟩ pp pc' ip ic) : RightIs ⟨5, t, ps, is, x, y⟩ pp pc' ip ic w := by
  unfold RightIs
  rw [right5]
  obtain ⟨U, hU⟩ : ∃ U : Bool, U = decide ((⟨0, t, ps, is, 0, 0⟩ : Vl) = zeroV) := ⟨_, rfl⟩
  have HSm : Hid (∀ W, Below w.heap.size w W → Calls Tryz.prog 235 #[vv ⟨0, t, ps, is, 0, 0⟩ pp pc' ip ic, .agg #[.int .i64 0, .string ⟨#[]⟩, .slice none 0 0, .slice none 0 0, .int .i64 0, .int .i64 0]] W fun e w' => e = .returned (.bool U) ∧ Hid (Below W.heap.size W w')) := fun W hW => by
    rw [hU]
    exact psame_any ⟨0, t, ps, is, 0, 0⟩ zeroV pp pc' ip ic none 0 none 0 W ⟨(hV.below hW).pairs, (hV.below hW).items⟩ (VI.zero W) hC.pairs hC.items
  rw [← hU]
  have HA := hid (al_two w (vob ⟨5, t, ps, is, x, y⟩ pp pc' ip ic) (vob ⟨0, t, ps, is, x, y⟩ pp pc' ip ic))
  obtain ⟨a0, a1, a2, a3, a4, a5⟩ := val_facts HA.out.2.1
  obtain ⟨b0, b1, b2, b3, b4, b5⟩ := val_facts HA.out.2.2.1
  obtain ⟨f0, f1, f2, f3, f4, f5⟩ := val_frozen HA.out.2.2.1
  have HVI := hid hV
  have HP := hid (fun W (_ : Below w.heap.size w W) => ptright_any x y W)
  clear hV hU hC
  dsimp only at a0 a1 a2 a3 a4 a5 b0 b1 b2 b3 b4 b5
  cases hF : rtB x y with
  | true =>
    rw [hF] at HP
    rw [Bool.true_and]
    clear hF
    go_enter Tryz.func190, Tryz.ntmps190
    go_wp2_with fail
    refine (HP.out _ HA.out.1).mono ?_; rintro e w2 ⟨rfl, hh⟩
    have HX2 := hid ((hh.out.block w.heap.size (by simp; omega)).trans HA.out.2.1)
    have HY2 := hid ((hh.out.block (w.heap.size + 1) (by simp)).trans HA.out.2.2.1)
    have HW2 := hid (HA.out.1.trans (hh.out.mono HA.out.1.size))
    clear hh a0 a1 a2 a3 a4 a5 b0 b1 b2 b3 b4 b5 f0 f1 f2 f3 f4 f5
    obtain ⟨a0, a1, a2, a3, a4, a5⟩ := val_facts HX2.out
    obtain ⟨b0, b1, b2, b3, b4, b5⟩ := val_facts HY2.out
    obtain ⟨f0, f1, f2, f3, f4, f5⟩ := val_frozen HY2.out
    dsimp only at a0 a1 a2 a3 a4 a5 b0 b1 b2 b3 b4 b5
    have HW3 := hid ((HW2.out.setCell (p := ⟨w.heap.size + 1, 4, none⟩) (by simp) (.int .i64 0)).setCell (p := ⟨w.heap.size + 1, 5, none⟩) (by simp) (.int .i64 0))
    go_wp2_with fail
    refine (HSm.out _ HW3.out).mono ?_; rintro e w3 ⟨rfl, hh⟩
    have HW4 := hid (HW3.out.trans (hh.out.mono HW3.out.size))
    clear hh
    go_wp2_with fail
    go_ret
    exact ⟨rfl, HW4.out⟩
  | false =>
    rw [hF] at HP
    rw [Bool.false_and]
    clear hF
    go_enter Tryz.func190, Tryz.ntmps190
    go_wp2_with fail
    refine (HP.out _ HA.out.1).mono ?_; rintro e w2 ⟨rfl, hh⟩
    have HX2 := hid ((hh.out.block w.heap.size (by simp; omega)).trans HA.out.2.1)
    have HY2 := hid ((hh.out.block (w.heap.size + 1) (by simp)).trans HA.out.2.2.1)
    have HW2 := hid (HA.out.1.trans (hh.out.mono HA.out.1.size))
    clear hh a0 a1 a2 a3 a4 a5 b0 b1 b2 b3 b4 b5 f0 f1 f2 f3 f4 f5
    obtain ⟨a0, a1, a2, a3, a4, a5⟩ := val_facts HX2.out
    obtain ⟨b0, b1, b2, b3, b4, b5⟩ := val_facts HY2.out
    obtain ⟨f0, f1, f2, f3, f4, f5⟩ := val_frozen HY2.out
    dsimp only at a0 a1 a2 a3 a4 a5 b0 b1 b2 b3 b4 b5
    have HW3 := hid ((HW2.out.setCell (p := ⟨w.heap.size + 1, 4, none⟩) (by simp) (.int .i64 0)).setCell (p := ⟨w.heap.size + 1, 5, none⟩) (by simp) (.int .i64 0))
    go_wp2_with fail
    go_ret
    exact ⟨rfl, HW3.out⟩
set_option maxHeartbeats 4000000 in
set_option maxRecDepth 100000 in
theorem prt_o (k : Int) (n1 : k ≠ 1) (n2 : k ≠ 2) (n3 : k ≠ 3) (n4 : k ≠ 4) (n5 : k ≠ 5) (t : Nm) (ps : List (Nm × Nm)) (is : List Nm) (x y : Int) (pp : Option Addr) (pc' : Nat) (ip : Option Addr) (ic : Nat) (w : World) : RightIs ⟨k, t, ps, is, x, y⟩ pp pc' ip ic w := by
  unfold RightIs
  rw [right0 n1 n2 n3 n4 n5]
  have HA := hid (al_two w (vob ⟨k, t, ps, is, x, y⟩ pp pc' ip ic) (vob ⟨0, t, ps, is, x, y⟩ pp pc' ip ic))
  have b1 : (k == 1) = false := beq_eq_false_iff_ne.2 n1
  have b2 : (k == 2) = false := beq_eq_false_iff_ne.2 n2
  have b3 : (k == 3) = false := beq_eq_false_iff_ne.2 n3
  have b4 : (k == 4) = false := beq_eq_false_iff_ne.2 n4
  have b5 : (k == 5) = false := beq_eq_false_iff_ne.2 n5
  clear n1 n2 n3 n4 n5
  go_enter Tryz.func190, Tryz.ntmps190
  go_wp2_with fail
  go_ret
  exact ⟨rfl, HA.out.1⟩
/-- Right -/
theorem pright_any (m : Vl) (pp : Option Addr) (pc' : Nat) (ip : Option Addr) (ic : Nat) (w : World) (hC : Came m) (hV : VI w m pp pc' ip ic) : RightIs m pp pc' ip ic w := by
  obtain ⟨k, t, ps, is, x, y⟩ := m
  by_cases h1 : k = 1
  · subst h1; exact prt_1 t ps is x y pp pc' ip ic w hC hV
  · by_cases h2 : k = 2
    · subst h2; exact prt_2 t ps is x y pp pc' ip ic w hC hV
    · by_cases h3 : k = 3
      · subst h3; exact prt_3 t ps is x y pp pc' ip ic w hC hV
      · by_cases h4 : k = 4
        · subst h4; exact prt_4 t ps is x y pp pc' ip ic w hC hV
        · by_cases h5 : k = 5
          · subst h5; exact prt_5 t ps is x y pp pc' ip ic w hC hV
          · exact prt_o k h1 h2 h3 h4 h5 t ps is x y pp pc' ip ic w

end Go.Proofs.YtcbncdigejjcpaaGreatDoor
