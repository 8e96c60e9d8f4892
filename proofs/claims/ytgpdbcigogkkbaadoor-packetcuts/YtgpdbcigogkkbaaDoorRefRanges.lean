/- The ranges of a set, by the document: ref Ranges. -/
import Derived.Test.YtgpdbcigogkkbaaDoorGaps
import Derived.Deep.RegionLaw
namespace Go.Proofs.YtgpdbcigogkkbaaDoor
open Go.RowKit
open Slot

theorem step_append_run {P : Program} {ops : Array Oper} {o : Oper} {a : Act} {w : World} {K : Act → World → Prop} {Q : Exit → Act → World → Prop} {E : Prop} (hw : Region.wanted o (yielded ops a.tmps) = true) (s x : Operand) (t : TypeId)
    (ho : o.op = .call { callee := .builtin .append, args := #[s, x], argTypes := #[t, t] }) (v u v' : Value) (w' : World) (hs : a.eval s = v) (hx : a.eval x = u)
    (hrun : (Builtin.append_ #[t, t] o.type #[v, u]).run P w = .ok v' w') (h : K (a.put o.dst v') w') : if Region.wanted o (yielded ops a.tmps) = true then o.wp P a w K Q else E := by
  rw [if_pos hw]
  unfold Oper.wp execOp
  simp only [ho, resolve, invoke, builtin, Sem.run_bind, Sem.run_pure, Result.andThen_ok, List.map_toArray, List.map_cons, List.map_nil, hs, hx, hrun]
  exact h
theorem nums_get (l : List Nat) (j : Nat) (h : j < l.length) : (nums l)[j]? = some (.int .i64 (l[j] : Int)) := by simp [nums, h]
theorem owns_nums {w : World} {B : Nat} {l : List Nat} {v : Value} (h : w.ownsRow B 3 1 v l.length (nums l)) (hne : l ≠ []) : ∃ g cap, v = .slice (some ⟨g, 0, none⟩) l.length cap ∧ g < w.heap.size ∧ ∀ j (hj : j < l.length), w.cell? ⟨g, j, none⟩ = some (.int .i64 (l[j] : Int)) := by
  rcases h.2 with ⟨_, h0⟩ | ⟨g, cap, cur, rfl, hg, hh, h1, h2, h3, h4⟩
  · exact absurd (List.length_eq_zero_iff.1 h0) hne
  · refine ⟨g, cap, rfl, (Array.getElem?_eq_some_iff.1 hh).1, fun j hj => ?_⟩
    have hu := nums_get l j hj
    rw [cell_of_row w g j _ _ _ hh]
    rw [← h4, List.getElem?_take] at hu
    split at hu
    · simpa using hu
    · cases hu

set_option maxHeartbeats 2000000 in
set_option maxRecDepth 100000 in
/-- ref Ranges -/
theorem rRanges_any (S : Nat → Bool) (w : World) :
    Calls Tryd.prog 31 #[.agg (cellsOf S)] w fun e w' => (∃ (l : List (Nat × Nat)) (v : Value) (B : Nat), e = .returned v ∧ Runs S 0 l ∧ w.heap.size ≤ B ∧ w'.ownsRow B 53 2 v l.length (flat l)) ∧ Below w.heap.size w w' := by
  have HB0 := hid (box_new w S)
  have HAl := hid fun W => rAll_any S W
  go_enter Tryd.func31, Tryd.ntmps31
  go_wp2_with (refine wpList_load_row rfl 24 _ rfl w.heap.size rfl 24 _ (0, 0) _ HB0.out Tryd.underlying24 rfl (infoBits _) (Hid.out ?_))
  refine hid ?_
  go_wp2_with fail
  refine (HAl.out _).mono ?_
  rintro e w1 ⟨⟨v, rfl, hown⟩, hb1⟩
  have HW1 := hid ((below_alloc w (.cells (cellsOf S) 24)).trans (hb1.mono (by simp)))
  have hw1 : w.heap.size < w1.heap.size := by have := hb1.size; simp at this; omega
  have hL : (upto S 16384).length ≤ 16384 := upto_len S 16384
  clear hb1
  by_cases hne : upto S 16384 = []
  · have hend : Runs S 0 [] := (gap_first S).last (by unfold top; rw [hne]; simp)
    have HEnd := hid hend
    rw [hne] at hown
    obtain ⟨a, cap, hv⟩ : ∃ a cap, v = .slice a 0 cap := by
      rcases hown.2 with ⟨rfl, _⟩ | ⟨g, cap, cur, rfl, _⟩
      · exact ⟨none, 0, rfl⟩
      · exact ⟨_, cap, rfl⟩
    subst hv
    clear hend hown hne
    go_wp2
    refine wp_loop_rounds 1 ?_
    rw [rounds_succ]
    go_wp2
    go_ret
    exact ⟨⟨[], _, w1.heap.size, rfl, HEnd.out, by omega, World.ownsRow_nil _ _ _ _⟩, HW1.out⟩
  · obtain ⟨g, cap, rfl, hg, hc⟩ := owns_nums hown hne
    have HC := hid hc
    have G0 := hid (gap_first S)
    obtain ⟨L, hLe⟩ : ∃ L, L = upto S 16384 := ⟨_, rfl⟩
    have HLe := hid hLe
    have HAt : Hid (∀ j (h : j < L.length), L[j] < 16384 ∧ S L[j] = true) := by subst hLe; exact fun j h => upto_at h
    have HGn : Hid (∀ k (h : k < L.length), Gap S (L[k] + 1) (k + 1)) := by subst hLe; exact fun k h => gap_next h
    have HGe : Hid (∀ k (h : k < L.length), (k + 1 < L.length → ∀ h', L[k + 1]'h' ≠ L[k] + 1) → L[k] + 1 < 16384 → S (L[k] + 1) = false) := by subst hLe; exact fun k h hh => gap_end h hh
    have HGh : Hid (∀ m n (h : n < L.length), Gap S m n → m ≤ L[n] ∧ ∀ x, m ≤ x → x < L[n] → S x = false) := by subst hLe; exact fun m n h gp => gp.here h
    rw [← hLe] at HC hL
    rw [← hLe]
    clear hc hne hown hLe HB0 HAl
    go_wp2
    go_loopw [3, 5, 6] (fun o i _ W => ∃ (n m : Nat) (acc : List (Nat × Nat)), n ≤ L.length ∧ i = .int .i64 n ∧ acc.length ≤ n ∧ m ≤ 16384 ∧ Hid (Gap S m n) ∧ Hid (∀ r, Runs S m r → Runs S 0 (acc ++ r)) ∧ Hid (W.ownsRow w1.heap.size 53 2 o acc.length (flat acc)) ∧ Hid (Below w1.heap.size w1 W) ∧ w1.heap.size ≤ W.heap.size) (fun _ i _ _ => L.length - (intOf i).toNat)
    case atStart => exact ⟨0, 0, [], Nat.zero_le _, rfl, by simp, by omega, G0.out, fun r h => h, (World.ownsRow_nil _ _ _ _ : World.ownsRow _ _ _ _ (.slice none 0 0) 0 []), Below.refl _ _, Nat.le_refl _⟩
    case round =>
      obtain ⟨n, m, acc, hn, rfl, hacc, hm, HG, HR, HO, HW, hsz⟩ := hrel
      by_cases hlt : n < L.length
      · have hdn : decide ((n : Int) < (L.length : Int)) = true := decide_eq_true (by omega)
        obtain ⟨X, hX⟩ : ∃ X, X = wr := ⟨_, rfl⟩
        subst hX
        have c0 : X.cell? ⟨g, n, none⟩ = some (.int .i64 (L[n] : Int)) := by rw [HW.out.cell (p := ⟨g, n, none⟩) hg]; exact HC.out n hlt
        go_wp2
        go_loopw [6] (fun v W => ∃ k : Nat, n ≤ k ∧ k < L.length ∧ v = .int .i64 k ∧ Hid (∀ h : k < L.length, L[n] ≤ L[k] ∧ ∀ x, L[n] ≤ x → x ≤ L[k] → S x = true) ∧ Hid (∃ d, W = X.drewN d)) (fun v _ => L.length - (intOf v).toNat)
        case atStart => exact ⟨n, Nat.le_refl _, hlt, rfl, fun h => ⟨Nat.le_refl _, fun x a b => by rw [show x = L[n] by omega]; exact (HAt.out n h).2⟩, ⟨0, rfl⟩⟩
        case round =>
          obtain ⟨k, hk1, hk2, rfl, HRunk, hd⟩ := hrel
          obtain ⟨d, rfl⟩ := hd.out
          obtain ⟨hnk, hrun⟩ : L[n] ≤ L[k] ∧ ∀ h : k < L.length, ∀ x, L[n] ≤ x → x ≤ L[k] → S x = true := ⟨(HRunk.out hk2).1, fun h => (HRunk.out h).2⟩
          have hrun : ∀ k' (h : k' < L.length), k' = k → ∀ x, L[n] ≤ x → x ≤ L[k'] → S x = true := fun k' h e => by subst e; exact (HRunk.out h).2
          have HRk := hid hrun
          have ck : X.cell? ⟨g, k, none⟩ = some (.int .i64 (L[k] : Int)) := by rw [HW.out.cell (p := ⟨g, k, none⟩) hg]; exact HC.out k hk2
          clear hd hrun
          by_cases hk3 : k + 1 < L.length
          · have ck1 : X.cell? ⟨g, k + 1, none⟩ = some (.int .i64 (L[k + 1] : Int)) := by rw [HW.out.cell (p := ⟨g, k + 1, none⟩) hg]; exact HC.out (k + 1) hk3
            have hdk : decide ((k : Int) + 1 < (L.length : Int)) = true := decide_eq_true (by omega)
            have hlk := (HAt.out k hk2).1
            have hlk1 := (HAt.out (k + 1) hk3).1
            by_cases heq : L[k + 1] = L[k] + 1
            · have hrel1 : ∀ h : k + 1 < L.length, L[n] ≤ L[k + 1] ∧ ∀ x, L[n] ≤ x → x ≤ L[k + 1] → S x = true := fun h => ⟨by omega, fun x a b => by
                rcases Nat.lt_or_ge x L[k + 1] with c | c
                · exact HRk.out k hk2 rfl x a (by omega)
                · rw [show x = L[k + 1] by omega]; exact (HAt.out (k + 1) h).2⟩
              have HR1 := hid hrel1
              obtain ⟨y, hy⟩ : ∃ y, y = L[k] := ⟨_, rfl⟩
              rw [heq, ← hy] at ck1
              rw [← hy] at ck hlk
              clear hrel1 heq hlk1 hy
              go_wp2_with fail
              go_quiet ((fail))
              go_wp2
              go_roundw
              case rel => exact ⟨k + 1, by omega, hk3, by go_num, HR1.out, ⟨_, rfl⟩⟩
              case measure => simp [intOf]; omega
            · have hbe : (((L[k + 1] : Nat) : Int) == ((L[k] : Nat) : Int) + 1) = false := by rw [beq_eq_false_iff_ne]; omega
              have HE := hid (HGe.out k hk2 (fun _ _ => heq))
              clear heq hlk1
              go_wp2_with fail
              go_quiet ((fail))
              go_wp2_with fail
              obtain ⟨Y, hY⟩ : ∃ Y, Y = (X.drewN d).drewN nq := ⟨_, rfl⟩
              rw [← hY]
              have HOY : Hid (Y.drew.ownsRow w1.heap.size 53 2 u3 acc.length (flat acc)) := by unfold Hid; rw [hY]; exact HO.out
              have HWY : Hid (Below w1.heap.size w1 Y.drew) := by unfold Hid; rw [hY]; exact Below.drew (Below.drewN (Below.drewN HW.out d) nq)
              have d0 : Y.cell? ⟨g, n, none⟩ = some (.int .i64 (L[n] : Int)) := by rw [hY]; exact c0
              have dk : Y.cell? ⟨g, k, none⟩ = some (.int .i64 (L[k] : Int)) := by rw [hY]; exact ck
              have hszY : w1.heap.size ≤ Y.heap.size := by rw [hY]; exact hsz
              have HRn : Hid (∀ r, Runs S (L[k] + 1) r → Runs S 0 ((acc ++ [(L[n], L[k])]) ++ r)) := fun r hr => by
                rw [List.append_assoc]
                obtain ⟨h1, h2⟩ := HGh.out m n hlt HG.out
                exact HR.out _ ⟨h1, hnk, (HAt.out k hk2).1, h2, HRk.out k hk2 rfl, HE.out, hr⟩
              have hLk := (HAt.out k hk2).1
              have HGk := hid (HGn.out k hk2)
              obtain ⟨v', w3, hr3, ho3, hg3⟩ := push_run w1.heap.size Y.drew u3 acc L[n] L[k] HOY.out hszY (by omega)
              have hb3 : Below w1.heap.size w1 w3 := (Below.alloc HWY.out hszY _).grown hg3 (by simp; omega) (fun q hq => (World.ownsRow.lt HOY.out q hq).1)
              have HW3 := hid hb3
              have hs3 : w1.heap.size ≤ w3.heap.size := hb3.size
              have HRun : Hid ((Builtin.append_ #[50, 50] 50 #[u3, .slice (some ⟨Y.heap.size, 0, none⟩) 1 1]).run Tryd.prog ((Y.alloc (.cells #[.int .i64 (L[n] : Int), .int .i64 (L[k] : Int)] 53)).drew) = .ok v' w3) := hr3
              have HO3 := hid ho3
              have hal : (acc ++ [(L[n], L[k])]).length ≤ k + 1 := by simp; omega
              obtain ⟨f, hf⟩ : ∃ f, f = L[n] := ⟨_, rfl⟩
              obtain ⟨t, ht⟩ : ∃ f, f = L[k] := ⟨_, rfl⟩
              rw [← hf] at d0
              rw [← ht] at dk
              rw [← hf, ← ht] at HRun HO3 HRn hal
              rw [← ht] at HGk hLk
              clear hr3 ho3 hg3 hb3 hf ht HE hY
              go_region_law (refine step_append_run rfl _ _ 50 rfl _ _ _ _ rfl rfl HRun.out ?_)
              all_goals go_wp2
              all_goals go_roundw
              all_goals first
                | (case rel => exact ⟨k + 1, t + 1, acc ++ [(f, t)], by omega, by go_num, hal, by omega, HGk.out, HRn.out, HO3.out, HW3.out, hs3⟩)
                | skip
              all_goals (simp [intOf]; omega)
          · have hdk : decide ((k : Int) + 1 < (L.length : Int)) = false := decide_eq_false (by omega)
            have HE := hid (HGe.out k hk2 (fun h => absurd h hk3))
            go_wp2_with fail
            go_quiet ((fail))
            go_wp2_with fail
            obtain ⟨Y, hY⟩ : ∃ Y, Y = (X.drewN d).drewN nq := ⟨_, rfl⟩
            rw [← hY]
            have HOY : Hid (Y.drew.ownsRow w1.heap.size 53 2 u3 acc.length (flat acc)) := by unfold Hid; rw [hY]; exact HO.out
            have HWY : Hid (Below w1.heap.size w1 Y.drew) := by unfold Hid; rw [hY]; exact Below.drew (Below.drewN (Below.drewN HW.out d) nq)
            have d0 : Y.cell? ⟨g, n, none⟩ = some (.int .i64 (L[n] : Int)) := by rw [hY]; exact c0
            have dk : Y.cell? ⟨g, k, none⟩ = some (.int .i64 (L[k] : Int)) := by rw [hY]; exact ck
            have hszY : w1.heap.size ≤ Y.heap.size := by rw [hY]; exact hsz
            have HRn : Hid (∀ r, Runs S (L[k] + 1) r → Runs S 0 ((acc ++ [(L[n], L[k])]) ++ r)) := fun r hr => by
              rw [List.append_assoc]
              obtain ⟨h1, h2⟩ := HGh.out m n hlt HG.out
              exact HR.out _ ⟨h1, hnk, (HAt.out k hk2).1, h2, HRk.out k hk2 rfl, HE.out, hr⟩
            have hLk := (HAt.out k hk2).1
            have HGk := hid (HGn.out k hk2)
            obtain ⟨v', w3, hr3, ho3, hg3⟩ := push_run w1.heap.size Y.drew u3 acc L[n] L[k] HOY.out hszY (by omega)
            have hb3 : Below w1.heap.size w1 w3 := (Below.alloc HWY.out hszY _).grown hg3 (by simp; omega) (fun q hq => (World.ownsRow.lt HOY.out q hq).1)
            have HW3 := hid hb3
            have hs3 : w1.heap.size ≤ w3.heap.size := hb3.size
            have HRun : Hid ((Builtin.append_ #[50, 50] 50 #[u3, .slice (some ⟨Y.heap.size, 0, none⟩) 1 1]).run Tryd.prog ((Y.alloc (.cells #[.int .i64 (L[n] : Int), .int .i64 (L[k] : Int)] 53)).drew) = .ok v' w3) := hr3
            have HO3 := hid ho3
            have hal : (acc ++ [(L[n], L[k])]).length ≤ k + 1 := by simp; omega
            obtain ⟨f, hf⟩ : ∃ f, f = L[n] := ⟨_, rfl⟩
            obtain ⟨t, ht⟩ : ∃ f, f = L[k] := ⟨_, rfl⟩
            rw [← hf] at d0
            rw [← ht] at dk
            rw [← hf, ← ht] at HRun HO3 HRn hal
            rw [← ht] at HGk hLk
            clear hr3 ho3 hg3 hb3 hf ht HE hY
            go_region_law (refine step_append_run rfl _ _ 50 rfl _ _ _ _ rfl rfl HRun.out ?_)
            all_goals go_wp2
            all_goals go_roundw
            all_goals first
              | (case rel => exact ⟨k + 1, t + 1, acc ++ [(f, t)], by omega, by go_num, hal, by omega, HGk.out, HRn.out, HO3.out, HW3.out, hs3⟩)
              | skip
            all_goals (simp [intOf]; omega)
      · have e : n = L.length := by omega
        have hend : Runs S m [] := HG.out.last (by unfold top; rw [← HLe.out]; omega)
        have HEnd := hid (HR.out [] hend)
        rw [List.append_nil] at HEnd
        go_wp2
        go_ret
        exact ⟨⟨acc, _, w1.heap.size, rfl, HEnd.out, by omega, HO.out⟩, HW1.out.trans (HW.out.mono (by omega))⟩

end Go.Proofs.YtgpdbcigogkkbaaDoor
