/- The document's sets: Has, With, Make, Without. -/
import Derived.Test.YtpbokncojemihaaOwn
import Derived.WalkLawsBesides
namespace Go.Proofs.Ytpbokncojemihaa
open Go.RowKit

theorem mem_take {l : Row} {i : Nat} (h : i < l.length) (s : Nm) : s ∈ l.take (i + 1) ↔ s ∈ l.take i ∨ s = l[i] := by
  rw [List.take_succ_eq_append_getElem h, List.mem_append, List.mem_singleton]
set_option maxHeartbeats 2000000 in
set_option maxRecDepth 100000 in
/-- ref Has -/
theorem rhas_any (p : Option Addr) (c : Nat) (l : Row) (s : Nm) (w : World) (h : Rd w p c l) (hl : l.length ≤ 1000000) :
    Calls Try.prog 17 #[.slice p l.length c, txt s] w fun e w' => e = .returned (.bool (decide (s ∈ l))) ∧ w' = w := by
  have H := hid h.strs
  obtain ⟨V, hV⟩ : ∃ V, V = decide (s ∈ l) := ⟨_, rfl⟩
  rw [← hV]
  have HV := hid hV
  have hlz : (l.length : Int) ≤ 1000000 := by omega
  clear h hV
  go_enter Try.func17, Try.ntmps17
  go_wp2
  go_loopw [5] (fun v5 W => ∃ k : Nat, v5 = .int .i64 k ∧ k ≤ l.length ∧ Hid (s ∉ l.take k) ∧ W = w) (fun v5 _ => l.length - (intOf v5).toNat)
  case atStart => exact ⟨0, rfl, Nat.zero_le _, by simp [Hid], rfl⟩
  case round =>
    obtain ⟨k, rfl, hk, HK, rfl⟩ := hrel
    by_cases hlt : k < l.length
    · have hkz : (k : Int) < (l.length : Int) := by omega
      obtain ⟨b, o, rfl, hc⟩ := H.out (fun e => by rw [e] at hlt; simp at hlt)
      have x0 := hc k hlt
      have HT := hid (mem_take hlt s)
      have HIn : Hid (l[k] ∈ l) := List.getElem_mem hlt
      generalize l[k] = t at *
      clear hc
      by_cases e : t = s
      · subst e
        have HVt : Hid (V = true) := by rw [Hid, HV.out]; exact decide_eq_true HIn.out
        go_wp2
        go_ret
        exact ⟨by rw [HVt.out]; rfl, rfl⟩
      · have HK2 : Hid (s ∉ l.take (k + 1)) := fun h => by
          rcases HT.out.1 h with h | h
          · exact HK.out h
          · exact e h.symm
        have hne : (t == s) = false := beq_eq_false_iff_ne.2 e
        clear e
        go_wp2
        exact ⟨⟨k + 1, by go_num, by omega, HK2.out, trivial⟩, by simp [intOf]; omega⟩
    · have HVf : Hid (V = false) := by
        rw [Hid, HV.out]; exact decide_eq_false (fun h => HK.out (by rw [List.take_of_length_le (by omega)]; exact h))
      go_wp2
      go_ret
      exact ⟨by rw [HVf.out]; rfl, rfl⟩
theorem with_drop {l : Row} {i : Nat} (h : i < l.length) (s : Nm) (b : Bool) : with1 s b (l.drop i) = (if b = false ∧ ¬ l[i] < s then [s] else []) ++ ((if l[i] = s then [] else [l[i]]) ++ with1 s (b || decide (¬ l[i] < s)) (l.drop (i + 1))) := by
  rw [drop_step h, with1]
set_option maxHeartbeats 4000000 in
set_option maxRecDepth 100000 in
/-- ref With -/
theorem rwith_any (p : Option Addr) (c : Nat) (l : Row) (s : Nm) (w : World) (h : Rd w p c l) (hl : l.length ≤ 800000) :
    Calls Try.prog 19 #[.slice p l.length c, txt s] w fun e w' => ∃ q d, e = .returned (.slice q (ins s l).length d) ∧ Hid (Own w.heap.size w' (.slice q (ins s l).length d) (ins s l) ∧ Below w.heap.size w w') := by
  have H := hid h.strs
  obtain ⟨R, hR⟩ : ∃ R, R = ins s l := ⟨_, rfl⟩
  rw [← hR]
  have HR := hid hR
  have hlz : (l.length : Int) ≤ 800000 := by omega
  clear h hR
  go_enter Try.func19, Try.ntmps19
  go_wp2_with fail
  go_loopw [5, 6, 7] (fun v5 v6 v7 W => ∃ (i m : Nat) (q : Option Addr) (d : Nat) (done : Bool) (acc : Row), v7 = .int .i64 i ∧ v5 = .slice q m d ∧ v6 = .bool done ∧ i ≤ l.length ∧ Hid (m = acc.length) ∧ m ≤ i + (if done then 1 else 0) ∧ Hid (acc ++ with1 s done (l.drop i) = R) ∧ Hid (Own w.heap.size W (.slice q m d) acc) ∧ Hid (Below w.heap.size w W)) (fun _ _ v7 _ => l.length - (intOf v7).toNat)
  case atStart => exact ⟨0, 0, none, 0, false, [], rfl, rfl, rfl, Nat.zero_le _, rfl, by simp, by rw [List.nil_append, List.drop_zero]; exact HR.out.symm, World.ownsRow_nil _ _ _ _, Below.refl _ _⟩
  case round =>
    obtain ⟨i, m, q, d, done, acc, rfl, rfl, rfl, hi, HM, hm, HA, HO, HW⟩ := hrel
    have hm2 : m ≤ i + 1 := by split at hm <;> omega
    by_cases hlt : i < l.length
    · have hiz : (i : Int) < (l.length : Int) := by omega
      obtain ⟨b, o, rfl, hc⟩ := H.out (fun e => by rw [e] at hlt; simp at hlt)
      have x0 := cell_turn (hc i hlt) (HW.out.block b (block_lt_of_cell (hc i hlt)))
      have Hx0 := hid (hc i hlt)
      have hblt : b < w.heap.size := block_lt_of_cell (hc i hlt)
      have HDr := hid (with_drop hlt s done)
      generalize l[i] = t at *
      clear hc
      have hws := HW.out.size
      by_cases hput : done = false ∧ ¬ t < s
      · obtain ⟨rfl, hge⟩ := hput
        have hbl : Op.bytesLess t s = false := by rw [bytesLess_eq]; exact decide_eq_false hge
        rw [if_pos ⟨rfl, hge⟩, show (false || decide (¬ t < s)) = true by simp [hge]] at HDr
        obtain ⟨v2, W2, hrun2, ho2, hb2⟩ := HO.out.push hws s (by have := HM.out; omega)
        obtain ⟨q2, d2, rfl, -⟩ := ho2.shape
        have hl2 : (acc ++ [s]).length = m + 1 := by rw [List.length_append, ← HM.out]; rfl
        rw [hl2] at hrun2 ho2
        have HL2 := hid hl2
        have HR2 := hid hrun2
        have HO2 := hid ho2
        have HW2 := hid (HW.out.trans hb2)
        have y0 := cell_turn Hx0.out (HW2.out.block b hblt)
        by_cases e : t = s
        · rw [if_pos e] at HDr
          have HA2 : Hid (acc ++ [s] ++ with1 s true (l.drop (i + 1)) = R) := by rw [Hid, ← HA.out, HDr.out]; simp
          have heq : (t == s) = true := beq_iff_eq.2 e
          clear hrun2 ho2 hb2 hl2 hge e
          go_wp2_with (refine wpList_append_runs rfl _ _ 22 22 rfl _ _ _ _ rfl rfl HR2.out (Hid.out ?_))
          refine hid ?_
          go_wp2_with fail
          exact ⟨⟨i + 1, m + 1, q2, d2, true, _, by go_num, rfl, rfl, by omega, HL2.out.symm, by simp; omega, HA2.out, HO2.out, HW2.out⟩, by simp [intOf]; omega⟩
        · rw [if_neg e] at HDr
          have HA2 : Hid (acc ++ [s] ++ [t] ++ with1 s true (l.drop (i + 1)) = R) := by rw [Hid, ← HA.out, HDr.out]; simp
          obtain ⟨v3, W3, hrun3, ho3, hb3⟩ := HO2.out.push HW2.out.size t (by have := HL2.out; omega)
          obtain ⟨q3, d3, rfl, -⟩ := ho3.shape
          have hl3 : (acc ++ [s] ++ [t]).length = m + 1 + 1 := by rw [List.length_append, hl2]; rfl
          rw [hl3] at hrun3 ho3
          have HL3 := hid hl3
          have HR3 := hid hrun3
          have HO3 := hid ho3
          have HW3 := hid (HW2.out.trans hb3)
          have hne : (t == s) = false := beq_eq_false_iff_ne.2 e
          clear hrun2 ho2 hb2 hl2 hge hrun3 ho3 hb3 hl3 e
          go_wp2_with (refine wpList_append_runs rfl _ _ 22 22 rfl _ _ _ _ rfl rfl HR2.out (Hid.out ?_))
          refine hid ?_
          go_wp2_with (refine wpList_append_runs rfl _ _ 22 22 rfl _ _ _ _ rfl rfl HR3.out (Hid.out ?_))
          refine hid ?_
          go_wp2_with fail
          exact ⟨⟨i + 1, m + 1 + 1, q3, d3, true, _, by go_num, rfl, rfl, by omega, HL3.out.symm, by simp at hm ⊢; omega, HA2.out, HO3.out, HW3.out⟩, by simp [intOf]; omega⟩
      · rw [if_neg hput, List.nil_append] at HDr
        have hdo : (done || decide (¬ t < s)) = done := by
          cases done with
          | true => rfl
          | false =>
            have : t < s := Classical.byContradiction fun h => hput ⟨rfl, h⟩
            simp [this]
        rw [hdo] at HDr
        by_cases e : t = s
        · subst e
          rw [if_pos rfl, List.nil_append] at HDr
          have HA2 : Hid (acc ++ with1 t done (l.drop (i + 1)) = R) := by rw [Hid, ← HA.out, HDr.out]
          have hd : done = true := by
            cases done with
            | true => rfl
            | false => exact absurd ⟨rfl, nm_lt_irrefl t⟩ hput
          subst hd
          clear hput hdo
          go_wp2_with fail
          exact ⟨⟨i + 1, m, q, d, true, acc, by go_num, rfl, rfl, by omega, HM.out, by simp at hm ⊢; omega, HA2.out, HO.out, HW.out⟩, by simp [intOf]; omega⟩
        · rw [if_neg e] at HDr
          have HA2 : Hid (acc ++ [t] ++ with1 s done (l.drop (i + 1)) = R) := by rw [Hid, ← HA.out, HDr.out]; simp
          obtain ⟨v3, W3, hrun3, ho3, hb3⟩ := HO.out.push hws t (by have := HM.out; omega)
          obtain ⟨q3, d3, rfl, -⟩ := ho3.shape
          have hl3 : (acc ++ [t]).length = m + 1 := by rw [List.length_append, ← HM.out]; rfl
          rw [hl3] at hrun3 ho3
          have HL3 := hid hl3
          have HR3 := hid hrun3
          have HO3 := hid ho3
          have HW3 := hid (HW.out.trans hb3)
          have hne : (t == s) = false := beq_eq_false_iff_ne.2 e
          clear hrun3 ho3 hb3 hl3 e
          cases done with
          | true =>
            clear hput hdo
            go_wp2_with (refine wpList_append_runs rfl _ _ 22 22 rfl _ _ _ _ rfl rfl HR3.out (Hid.out ?_))
            refine hid ?_
            go_wp2_with fail
            exact ⟨⟨i + 1, m + 1, q3, d3, true, _, by go_num, rfl, rfl, by omega, HL3.out.symm, by simp at hm ⊢; omega, HA2.out, HO3.out, HW3.out⟩, by simp [intOf]; omega⟩
          | false =>
            have hts : t < s := Classical.byContradiction fun h => hput ⟨rfl, h⟩
            have hbl : Op.bytesLess t s = true := by rw [bytesLess_eq]; exact decide_eq_true hts
            clear hput hdo hts
            go_wp2_with (refine wpList_append_runs rfl _ _ 22 22 rfl _ _ _ _ rfl rfl HR3.out (Hid.out ?_))
            refine hid ?_
            go_wp2_with fail
            exact ⟨⟨i + 1, m + 1, q3, d3, false, _, by go_num, rfl, rfl, by omega, HL3.out.symm, by simp at hm ⊢; omega, HA2.out, HO3.out, HW3.out⟩, by simp [intOf]; omega⟩
    · have hdn : l.drop i = [] := List.drop_eq_nil_of_le (by omega)
      rw [hdn] at HA
      clear hdn
      cases done with
      | true =>
        have HE : Hid (acc = R) := by rw [Hid, ← HA.out]; simp [with1]
        obtain rfl := HE.out
        obtain rfl := HM.out
        go_wp2_with fail
        go_ret
        exact ⟨q, d, rfl, HO.out, HW.out⟩
      | false =>
        have HE : Hid (acc ++ [s] = R) := by rw [Hid, ← HA.out]; simp [with1]
        obtain ⟨v3, W3, hrun3, ho3, hb3⟩ := HO.out.push HW.out.size s (by have := HM.out; omega)
        obtain ⟨q3, d3, rfl, -⟩ := ho3.shape
        rw [HE.out] at hrun3 ho3
        have HR3 := hid hrun3
        have HO3 := hid ho3
        have HW3 := hid (HW.out.trans hb3)
        clear hrun3 ho3 hb3
        go_wp2_with (refine wpList_append_runs rfl _ _ 22 22 rfl _ _ _ _ rfl rfl HR3.out (Hid.out ?_))
        refine hid ?_
        go_wp2_with fail
        go_ret
        exact ⟨q3, d3, rfl, HO3.out, HW3.out⟩

end Go.Proofs.Ytpbokncojemihaa
