/- Same10. -/
import Derived.Test.YtppgifaegnmciaaDoorM04
namespace Go.Proofs.YtppgifaegnmciaaDoor
open Go.RowKit

set_option maxHeartbeats 4000000 in
set_option maxRecDepth 100000 in
theorem same_core (k : Int) (t : Nm) (ps : List (Nm × Nm)) (is : List Nm) (x y : Int) (k' : Int) (t' : Nm) (ps' : List (Nm × Nm)) (is' : List Nm) (x' y' : Int) (pp : Option Addr) (pc' : Nat) (ip : Option Addr) (ic : Nat) (pp2 : Option Addr) (pc2 : Nat) (ip2 : Option Addr) (ic2 : Nat) (w : World)
    (h1 : VI w ⟨k, t, ps, is, x, y⟩ pp pc' ip ic) (h2 : VI w ⟨k', t', ps', is', x', y'⟩ pp2 pc2 ip2 ic2) (hl : ps.length ≤ 140737488351232) (hli : is.length ≤ 140737488351232) (V : Bool) (HV : Hid (V = true ↔ k = k' ∧ t = t' ∧ ps = ps' ∧ is = is' ∧ x = x' ∧ y = y')) :
    Calls Tryd.prog 39 #[vv ⟨k, t, ps, is, x, y⟩ pp pc' ip ic, vv ⟨k', t', ps', is', x', y'⟩ pp2 pc2 ip2 ic2] w fun e w' => e = .returned (.bool V) ∧ Hid (Below w.heap.size w w') := by
  have HA := hid (al_two w (vob ⟨k, t, ps, is, x, y⟩ pp pc' ip ic) (vob ⟨k', t', ps', is', x', y'⟩ pp2 pc2 ip2 ic2))
  obtain ⟨a0, a1, a2, a3, a4, a5⟩ := val_facts HA.out.2.1
  obtain ⟨b0, b1, b2, b3, b4, b5⟩ := val_facts HA.out.2.2.1
  dsimp only at a0 a1 a2 a3 a4 a5 b0 b1 b2 b3 b4 b5
  have HI := hid (fun W g1 g2 => same_any ip ic ip2 ic2 is is' W g1 g2 hli)
  have H1 := hid h1
  have H2 := hid h2
  have hlz : (ps.length : Int) ≤ 140737488351232 := by omega
  clear h1 h2
  by_cases hlen : ps.length = ps'.length
  · have hne : ((ps.length : Int) != (ps'.length : Int)) = false := by rw [hlen]; simp
    have HL := hid hlen
    have hlen' : (ps.length : Int) = (ps'.length : Int) := by omega
    go_enter Tryd.func39, Tryd.ntmps39
    go_wp2_with fail
    go_loopw [5] (fun v5 W => ∃ j : Nat, v5 = .int .i64 j ∧ j ≤ ps.length ∧ Hid (ps.drop j = ps'.drop j ↔ ps = ps') ∧ Hid (Below (w.heap.size + 2) ((w.alloc (vob ⟨k, t, ps, is, x, y⟩ pp pc' ip ic)).alloc (vob ⟨k', t', ps', is', x', y'⟩ pp2 pc2 ip2 ic2)) W)) (fun v5 _ => ps.length - (intOf v5).toNat)
    case atStart => exact ⟨0, rfl, Nat.zero_le _, by simp [Hid], Below.refl _ _⟩
    case round =>
      obtain ⟨j, rfl, hj, HD, HB⟩ := hrel
      have HX := hid ((HB.out.block w.heap.size (by omega)).trans HA.out.2.1)
      have HY := hid ((HB.out.block (w.heap.size + 1) (by omega)).trans HA.out.2.2.1)
      have HW := hid (HA.out.1.trans (HB.out.mono (by omega)))
      clear a0 a1 a2 a3 a4 a5 b0 b1 b2 b3 b4 b5
      obtain ⟨a0, a1, a2, a3, a4, a5⟩ := val_facts HX.out
      obtain ⟨b0, b1, b2, b3, b4, b5⟩ := val_facts HY.out
      dsimp only at a0 a1 a2 a3 a4 a5 b0 b1 b2 b3 b4 b5
      by_cases hlt : j < ps.length
      · have hlt2 : j < ps'.length := by omega
        have hlz2 : (j : Int) < (ps.length : Int) := by omega
        have hlz3 : (j : Int) < (ps'.length : Int) := by omega
        obtain ⟨g1, o1, hp1, hc1⟩ := (H1.out.below HW.out).pairs.prs (fun e => by rw [show ps = [] from e] at hlt; simp at hlt)
        obtain ⟨g2, o2, hp2, hc2⟩ := (H2.out.below HW.out).pairs.prs (fun e => by rw [show ps' = [] from e] at hlt2; simp at hlt2)
        have x1 := hc1 j hlt
        have x2 := hc2 j hlt2
        dsimp only at x1 x2
        subst hp1 hp2
        obtain ⟨x10, x11⟩ := x1
        obtain ⟨x20, x21⟩ := x2
        have HS := hid (drop_step hlt)
        have HS2 := hid (drop_step hlt2)
        have HE : Hid (ps[j] = ps'[j] ↔ ps[j].1 = ps'[j].1 ∧ ps[j].2 = ps'[j].2) := Prod.ext_iff
        generalize ps[j] = p1 at *
        generalize ps'[j] = p2 at *
        obtain ⟨s1, s2⟩ := p1
        obtain ⟨t1, t2⟩ := p2
        dsimp only at *
        clear hc1 hc2
        by_cases hst : s1 = t1
        · by_cases hst2 : s2 = t2
          · subst hst hst2
            have HD2 : Hid (ps.drop (j + 1) = ps'.drop (j + 1) ↔ ps = ps') := by
              have := HD.out
              rw [HS.out, HS2.out] at this
              exact ⟨fun h => this.1 (by rw [h]), fun h => (List.cons.inj (this.2 h)).2⟩
            go_wp2_with fail
            go_quiet (fail)
            go_wp2_with fail
            exact ⟨⟨j + 1, by go_num, by omega, HD2.out, by first | exact HB.out | exact HB.out.drew | exact below_redrawn HB.out _⟩, by simp [intOf]; omega⟩
          · obtain rfl : V = false := by
              cases V with
              | false => rfl
              | true =>
                have e := (HV.out.1 rfl).2.2.1
                have := HD.out.2 e
                rw [HS.out, HS2.out] at this
                exact absurd (Prod.mk.inj (List.cons.inj this).1).2 hst2
            have hn : (s2 == t2) = false := beq_eq_false_iff_ne.2 hst2
            have hn1 : (s1 == t1) = true := beq_iff_eq.2 hst
            clear hst2
            go_wp2_with fail
            go_quiet (fail)
            go_wp2_with fail
            go_ret
            first | exact ⟨rfl, HW.out⟩ | exact ⟨rfl, HW.out.drew⟩ | exact ⟨rfl, below_redrawn HW.out _⟩
        · obtain rfl : V = false := by
            cases V with
            | false => rfl
            | true =>
              have e := (HV.out.1 rfl).2.2.1
              have := HD.out.2 e
              rw [HS.out, HS2.out] at this
              exact absurd (Prod.mk.inj (List.cons.inj this).1).1 hst
          have hn : (s1 == t1) = false := beq_eq_false_iff_ne.2 hst
          clear hst
          go_wp2_with fail
          go_quiet (fail)
          go_wp2_with fail
          go_ret
          first | exact ⟨rfl, HW.out⟩ | exact ⟨rfl, HW.out.drew⟩ | exact ⟨rfl, below_redrawn HW.out _⟩
      · have HPs : Hid (ps = ps') := HD.out.1 (by rw [List.drop_eq_nil_of_le (by omega), List.drop_eq_nil_of_le (by have := HL.out; omega)])
        have hlz2 : (ps.length : Int) ≤ (j : Int) := by omega
        by_cases ek : k = k'
        · by_cases et : t = t'
          · by_cases ex : x = x'
            · by_cases ey : y = y'
              · subst ek et ex ey
                have h1 : (k == k) = true := beq_iff_eq.2 rfl
                have h2 : (t == t) = true := beq_iff_eq.2 rfl
                have hVV : V = decide (is = is') := by
                  by_cases e : is = is'
                  · rw [decide_eq_true e]; exact HV.out.2 ⟨rfl, rfl, HPs.out, e, rfl, rfl⟩
                  · rw [decide_eq_false e]
                    cases V with
                    | false => rfl
                    | true => exact absurd (HV.out.1 rfl).2.2.2.1 e
                rw [← hVV] at HI
                clear hVV
                go_wp2_with fail
                refine (HI.out _ (H1.out.below HW.out).items.strs (H2.out.below HW.out).items.strs).mono ?_; rintro e w2 ⟨rfl, hh⟩
                have HW2 := hid (HW.out.trans (hh.out.mono HW.out.size))
                clear hh
                go_wp2_with fail
                go_ret
                exact ⟨rfl, HW2.out⟩
              · obtain rfl : V = false := by
                  cases V with
                  | false => rfl
                  | true => exact absurd (HV.out.1 rfl).2.2.2.2.2 ey
                have e1 : (y == y') = false := beq_eq_false_iff_ne.2 ey
                have e2 : (x == x') = true := beq_iff_eq.2 ex
                have e3 : (t == t') = true := beq_iff_eq.2 et
                have e4 : (k == k') = true := beq_iff_eq.2 ek
                clear ey
                go_wp2_with fail
                go_ret
                exact ⟨rfl, HW.out⟩
            · obtain rfl : V = false := by
                cases V with
                | false => rfl
                | true => exact absurd (HV.out.1 rfl).2.2.2.2.1 ex
              have e2 : (x == x') = false := beq_eq_false_iff_ne.2 ex
              have e3 : (t == t') = true := beq_iff_eq.2 et
              have e4 : (k == k') = true := beq_iff_eq.2 ek
              clear ex
              go_wp2_with fail
              go_ret
              exact ⟨rfl, HW.out⟩
          · obtain rfl : V = false := by
              cases V with
              | false => rfl
              | true => exact absurd (HV.out.1 rfl).2.1 et
            have e3 : (t == t') = false := beq_eq_false_iff_ne.2 et
            have e4 : (k == k') = true := beq_iff_eq.2 ek
            clear et
            go_wp2_with fail
            go_ret
            exact ⟨rfl, HW.out⟩
        · obtain rfl : V = false := by
            cases V with
            | false => rfl
            | true => exact absurd (HV.out.1 rfl).1 ek
          have e4 : (k == k') = false := beq_eq_false_iff_ne.2 ek
          clear ek
          go_wp2_with fail
          go_ret
          exact ⟨rfl, HW.out⟩
  · obtain rfl : V = false := by
      cases V with
      | false => rfl
      | true => exact absurd (by rw [(HV.out.1 rfl).2.2.1]) hlen
    have hne : ((ps.length : Int) != (ps'.length : Int)) = true := by simp; omega
    clear hlen
    go_enter Tryd.func39, Tryd.ntmps39
    go_wp2_with fail
    go_ret
    exact ⟨rfl, HA.out.1⟩
/-- ref Same -/
theorem rsame_any (a b : Vl) (pp : Option Addr) (pc' : Nat) (ip : Option Addr) (ic : Nat) (pp2 : Option Addr) (pc2 : Nat) (ip2 : Option Addr) (ic2 : Nat) (w : World) (h1 : VI w a pp pc' ip ic) (h2 : VI w b pp2 pc2 ip2 ic2) (hl : a.pairs.length ≤ 140737488351232) (hli : a.items.length ≤ 140737488351232) :
    Calls Tryd.prog 39 #[vv a pp pc' ip ic, vv b pp2 pc2 ip2 ic2] w fun e w' => e = .returned (.bool (decide (a = b))) ∧ Hid (Below w.heap.size w w') := by
  have hV : Hid (decide (a = b) = true ↔ _) := (decide_eq_true_iff (p := a = b)).trans vl_ext
  obtain ⟨k, t, ps, is, x, y⟩ := a
  obtain ⟨k', t', ps', is', x', y'⟩ := b
  exact same_core k t ps is x y k' t' ps' is' x' y' pp pc' ip ic pp2 pc2 ip2 ic2 w h1 h2 hl hli _ hV

end Go.Proofs.YtppgifaegnmciaaDoor
