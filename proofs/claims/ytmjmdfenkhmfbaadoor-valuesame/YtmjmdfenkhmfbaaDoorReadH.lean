/- The document's read of hashes; of any bytes. -/
import Derived.Test.YtmjmdfenkhmfbaaDoorPairs
import Derived.Deep.RegionLaw
namespace Go.Proofs.YtmjmdfenkhmfbaaDoor
open Go.RowKit

theorem step_append_run {P : Program} {ops : Array Oper} {o : Oper} {a : Act} {w : World} {K : Act → World → Prop} {Q : Exit → Act → World → Prop} {E : Prop} (hw : Region.wanted o (yielded ops a.tmps) = true) (s x : Operand) (t : TypeId)
    (ho : o.op = .call { callee := .builtin .append, args := #[s, x], argTypes := #[t, t] }) (v u v' : Value) (w' : World) (hs : a.eval s = v) (hx : a.eval x = u)
    (hrun : (Builtin.append_ #[t, t] o.type #[v, u]).run P w = .ok v' w') (h : K (a.put o.dst v') w') : if Region.wanted o (yielded ops a.tmps) = true then o.wp P a w K Q else E := by
  rw [if_pos hw]
  unfold Oper.wp execOp
  simp only [ho, resolve, invoke, builtin, Sem.run_bind, Sem.run_pure, Result.andThen_ok, List.map_toArray, List.map_cons, List.map_nil, hs, hx, hrun]
  exact h

set_option maxHeartbeats 4000000 in
set_option maxRecDepth 100000 in
theorem read_2 (b c : UInt8) (r : Nm) (w : World) (hs : r.length ≤ 281474976710000) :
    Calls Tryd.prog 41 #[txt (2 :: b :: c :: r)] w fun e w' => ∃ pp pc' ip ic, e = .returned (vv (readV (2 :: b :: c :: r)) pp pc' ip ic) ∧ Hid (VI w' (readV (2 :: b :: c :: r)) pp pc' ip ic ∧ Fr w.heap.size pp ip ∧ Below w.heap.size w w') := by
  obtain ⟨M, hM⟩ : ∃ M, M = readV (2 :: b :: c :: r) := ⟨_, rfl⟩
  rw [← hM]
  have hM : M = ⟨2, [], if 256 < num2 b c then [] else unflat (lst (rdT r (2 * num2 b c))), [], 0, 0⟩ := by rw [hM]; rfl
  obtain ⟨s, hsd⟩ : ∃ s : Nm, s = 2 :: b :: c :: r := ⟨_, rfl⟩
  rw [← hsd]
  have hlen : s.length = r.length + 3 := by rw [hsd]; rfl
  have HAt := hid (fun W => at_any s 1 W (by omega) (by decide))
  rw [at2_is (by omega), show s.getD 1 0 = b by rw [hsd]; rfl, show s.getD (1 + 1) 0 = c by rw [hsd]; rfl] at HAt
  have hB0 : ((((⟨s.toArray⟩ : ByteArray)[0]'(by simp [ByteArray.size]; omega)).toNat : Nat) : Int) = 2 := by subst hsd; rfl
  have hsz : (s.length : Int) ≤ 281474976710656 := by omega
  have h0z : (0 : Int) < (s.length : Int) := by omega
  have hnl := num2_lt b c
  obtain ⟨n, hn⟩ : ∃ n, n = num2 b c := ⟨_, rfl⟩
  rw [← hn] at HAt hnl
  have HA := hid (al_two w (vob zeroV none 0 none 0) (vob ⟨2, [], [], [], 0, 0⟩ none 0 none 0))
  rw [← hn] at hM
  have hd3 : s.drop 3 = r := by rw [hsd]; rfl
  clear hsd hn
  by_cases hbig : 256 < n
  · rw [if_pos hbig] at hM
    have hbz : (256 : Int) < (n : Int) := by omega
    go_enter Tryd.func41, Tryd.ntmps41
    go_wp2_with fail
    refine (HAt.out _).mono ?_; rintro e w1 ⟨rfl, hh⟩
    have HZ := hid ((hh.out.block w.heap.size (by simp; omega)).trans HA.out.2.1)
    have HY := hid ((hh.out.block (w.heap.size + 1) (by simp)).trans HA.out.2.2.1)
    have HW := hid (HA.out.1.trans (hh.out.mono HA.out.1.size))
    clear hh
    obtain ⟨c0, c1, c2, c3, c4, c5⟩ := val_facts HZ.out
    obtain ⟨g0, g1, g2, g3, g4, g5⟩ := val_frozen HZ.out
    obtain ⟨d0, d1, d2, d3, d4, d5⟩ := val_facts HY.out
    obtain ⟨e0, e1, e2, e3, e4, e5⟩ := val_frozen HY.out
    go_wp2_with fail
    refine bodyPost_ret (v := vv M none 0 none 0) ?_ rfl ?_
    · rw [hM]; exact ret_val rfl rfl (set_six HZ.out HW.out (Nat.le_refl _)).1
    · exact ⟨none, 0, none, 0, rfl, by rw [hM]; exact ⟨Rp.nilRow _, Rd.nilRow _⟩, Fr.none _, (set_six HZ.out HW.out (Nat.le_refl _)).2⟩
  · rw [if_neg hbig] at hM
    have hbz : (n : Int) ≤ 256 := by omega
    have HT := hid (fun W => texts_any s 3 (2 * n) W (by omega) (by omega) (by omega) (by omega))
    rw [hd3, show ((2 * n : Nat) : Int) = 2 * (n : Int) by omega] at HT
    have hLl : (lst (rdT r (2 * n))).length ≤ 512 := by
      cases hr : rdT r (2 * n) with
      | none => simp [lst]
      | some P =>
        obtain ⟨L, R⟩ := P
        have := (rdT_len _ _ L R hr).1
        show L.length ≤ 512
        omega
    generalize lst (rdT r (2 * n)) = L at *
    clear hbig
    go_enter Tryd.func41, Tryd.ntmps41
    go_wp2_with fail
    refine (HAt.out _).mono ?_; rintro e w1 ⟨rfl, hh⟩
    have HZ := hid ((hh.out.block w.heap.size (by simp; omega)).trans HA.out.2.1)
    have HY := hid ((hh.out.block (w.heap.size + 1) (by simp)).trans HA.out.2.2.1)
    have HW := hid (HA.out.1.trans (hh.out.mono HA.out.1.size))
    clear hh
    obtain ⟨c0, c1, c2, c3, c4, c5⟩ := val_facts HZ.out
    obtain ⟨g0, g1, g2, g3, g4, g5⟩ := val_frozen HZ.out
    obtain ⟨d0, d1, d2, d3, d4, d5⟩ := val_facts HY.out
    obtain ⟨e0, e1, e2, e3, e4, e5⟩ := val_frozen HY.out
    have hwb : w.heap.size + 1 < w1.heap.size := (Array.getElem?_eq_some_iff.1 HY.out).1
    go_wp2_with fail
    refine (HT.out _).mono ?_; rintro e w2 ⟨q0, d0', z, rfl, hh⟩
    have HZ2 := hid ((hh.out.2.2.block w.heap.size (Array.getElem?_eq_some_iff.1 HZ.out).1).trans HZ.out)
    have HY2 := hid ((hh.out.2.2.block (w.heap.size + 1) (Array.getElem?_eq_some_iff.1 HY.out).1).trans HY.out)
    have HW2 := hid (HW.out.trans (hh.out.2.2.mono HW.out.size))
    have HG : Hid (L ≠ [] → ∃ gb, q0 = some ⟨gb, 0, none⟩ ∧ w1.heap.size ≤ gb ∧ gb < w2.heap.size ∧ ∀ j (h : j < L.length), w2.cell? ⟨gb, 0 + j, none⟩ = some (txt L[j])) := fun hne => by
      have ho := hh.out.1
      obtain ⟨gb, go, hq, hcs⟩ := ho.rd.strs hne
      rcases ho.2 with ⟨h1, h0⟩ | ⟨g, cap, cur, h1, h2, h3, _⟩
      · exact absurd (List.length_eq_zero_iff.1 h0) hne
      · injection h1 with h1
        rw [hq] at h1
        injection h1 with h1
        injection h1 with h1 h4
        subst h1 h4
        exact ⟨gb, hq, h2, (Array.getElem?_eq_some_iff.1 h3).1, hcs⟩
    have hw12 := hh.out.2.2.size
    clear hh c0 c1 c2 c3 c4 c5 g0 g1 g2 g3 g4 g5 d0 d1 d2 d3 d4 d5 e0 e1 e2 e3 e4 e5
    have hLz : (L.length : Int) ≤ 512 := by omega
    have HN := hid (unflat_len L)
    go_wp2_with fail
    go_loopw [9] (fun v9 W => ∃ (i j : Nat) (q : Option Addr) (d : Nat), v9 = .int .i64 (j : Int) ∧ Hid (j = 2 * i) ∧ j ≤ L.length + 1 ∧ Hid (i ≤ L.length / 2) ∧ Hid (W.heap[w.heap.size]? = some (.cells (vcs zeroV none 0 none 0) 27 (0, 0))) ∧ Hid (W.heap[w.heap.size + 1]? = some (.cells #[.int .i64 2, txt [], .slice q i d, .slice none 0 0, .int .i64 0, .int .i64 0] 27 (0, 0))) ∧ Hid (OwnP w2.heap.size W (.slice q i d) ((unflat L).take i)) ∧ Hid (∀ k, w.heap.size + 1 < k → k < w2.heap.size → W.heap[k]? = w2.heap[k]?) ∧ Hid (Below w.heap.size w W) ∧ w2.heap.size ≤ W.heap.size) (fun v9 _ => L.length + 1 - (intOf v9).toNat)
    case atStart => exact ⟨0, 0, none, 0, rfl, rfl, by omega, Nat.zero_le _, HZ2.out, HY2.out, World.ownsRow_nil _ _ _ _, fun _ _ _ => rfl, HW2.out, Nat.le_refl _⟩
    case round =>
      obtain ⟨i, j, q, d, rfl, HJ, hi, HIl, HZi, HYi, HOi, HSi, HWi, hsz2⟩ := hrel
      obtain ⟨d0, d1, d2, d3, d4, d5⟩ := val_facts HYi.out
      obtain ⟨e0, e1, e2, e3, e4, e5⟩ := val_frozen HYi.out
      have hyl : w.heap.size + 1 < wr.heap.size := (Array.getElem?_eq_some_iff.1 HYi.out).1
      by_cases hjlt : j + 1 < L.length
      · have hlt : 2 * i + 1 < L.length := by have := HJ.out; omega
        have hlz : (j : Int) + 1 < (L.length : Int) := by omega
        have hlz0 : (j : Int) < (L.length : Int) := by omega
        have hwj : IntKind.i64.wrap ((j : Int) + 1) = (j : Int) + 1 := by rw [IntKind.wrap_i64]; omega
        have hj1 : ((j : Int) + 1).toNat = j + 1 := by omega
        have hj0 : (0 : Int) ≤ (j : Int) + 1 := by omega
        obtain ⟨gb, hq0, hg1, hg2, hcs⟩ := HG.out (fun e => by rw [e] at hlt; simp at hlt)
        have x0 := cell_turn (hcs (2 * i) (by omega)) (HSi.out gb (by omega) hg2)
        have x1 := cell_turn (hcs (2 * i + 1) hlt) (HSi.out gb (by omega) hg2)
        rw [Nat.zero_add] at x0 x1
        have HTk := hid (unflat_take hlt)
        have hlen : ((unflat L).take i).length = i := by have := HN.out; simp; omega
        have hOd : OwnP w2.heap.size wr.drew (.slice q i d) ((unflat L).take i) := HOi.out
        obtain ⟨v3, W3, hrun, h3, hb3⟩ := hOd.push (show w2.heap.size ≤ wr.drew.heap.size from hsz2) L[2 * i] L[2 * i + 1] (by omega)
        rw [← HTk.out] at h3
        obtain ⟨q3, d3', rfl⟩ := h3.shape
        have hl3 : ((unflat L).take (i + 1)).length = i + 1 := by have := HN.out; simp; omega
        rw [hl3] at h3 hrun
        have HR := hid hrun
        have H3 := hid h3
        have HB3 : Hid (Below w2.heap.size wr.drew W3) := hb3
        subst hq0
        have HG2 := hid (And.intro hg1 hg2)
        have HLt := hid hlt
        generalize L[2 * i] = ta at *
        generalize L[2 * i + 1] = tb at *
        rw [← HJ.out] at x0 x1
        clear hlt
        have y3 := (HB3.out.block (w.heap.size + 1) (by omega)).trans HYi.out
        obtain ⟨f0, f1, f2, f3, f4, f5⟩ := val_facts y3
        obtain ⟨k0, k1, k2, k3, k4, k5⟩ := val_frozen y3
        have HY3 := hid y3
        clear hcs hrun h3 hb3 hOd hlen hl3 hg1 hg2 y3
        go_wp2_with fail
        go_region_law (first
          | (refine step_append_run rfl _ _ 22 rfl _ _ _ _ rfl rfl HR.out ?_))
        all_goals go_wp2_with fail
        all_goals
          refine ⟨⟨i + 1, j + 2, q3, d3', by go_num, ?_, by omega, ?_, ?_, ?_, ?_, ?_, ?_, ?_⟩, by simp [intOf]; omega⟩
          · have := HJ.out; show j + 2 = 2 * (i + 1); omega
          · have := HLt.out; show i + 1 ≤ L.length / 2; omega
          · exact (heap_setCell_other _ _ _ _ (by simp)).trans ((HB3.out.block w.heap.size (by omega)).trans HZi.out)
          · exact heap_setCell_same W3 (w.heap.size + 1) 2 _ _ _ HY3.out
          · exact H3.out.set (w.heap.size + 1) 2 _ (by omega)
          · exact fun k hk1 hk2 => (heap_setCell_other _ _ _ _ (by simp only; omega)).trans ((HB3.out.block k hk2).trans (HSi.out k hk1 hk2))
          · exact (HWi.out.drew.trans (HB3.out.mono (by omega))).setCell (p := ⟨w.heap.size + 1, 2, none⟩) (by simp) _
          · have := HB3.out.size; simp at this ⊢; omega
      · have hgz : (L.length : Int) ≤ (j : Int) + 1 := by omega
        have hii : i = L.length / 2 := by have h1 := HIl.out; have h2 := HJ.out; omega
        have HF : Hid ((unflat L).take i = unflat L) := List.take_of_length_le (by have := HN.out; omega)
        have HIL : Hid (i = (unflat L).length) := by have := HN.out; show i = _; omega
        clear hii
        obtain ⟨c0, c1, c2, c3, c4, c5⟩ := val_facts HZi.out
        obtain ⟨g0, g1, g2, g3, g4, g5⟩ := val_frozen HZi.out
        go_wp2_with fail
        refine bodyPost_ret (v := vv M q d none 0) ?_ rfl ?_
        · rw [hM]
          show _ = Result.ok (Value.agg #[.int .i64 2, txt [], .slice q (unflat L).length d, .slice none 0 0, .int .i64 0, .int .i64 0]) _
          rw [← HIL.out]
          exact ret_val rfl rfl (set_six HZi.out HWi.out (Nat.le_refl _)).1
        · refine ⟨q, d, none, 0, rfl, ?_, ⟨fun a e => Nat.le_trans (by omega) (owns_block HOi.out a e), (fun _ h => by cases h)⟩, (set_six HZi.out HWi.out (Nat.le_refl _)).2⟩
          rw [hM]
          have ho := HOi.out
          rw [HF.out] at ho
          exact ⟨(OwnP.set6 ho w.heap.size (by omega) _ _ _ _ _ _).rp, Rd.nilRow _⟩

/-- ref read of any bytes -/
theorem rread_any (s : Nm) (w : World) (h1 : 1 ≤ s.length) (hs : s.length ≤ 281474976710000) :
    Calls Tryd.prog 41 #[txt s] w fun e w' => ∃ pp pc' ip ic, e = .returned (vv (readV s) pp pc' ip ic) ∧ Hid (VI w' (readV s) pp pc' ip ic ∧ Fr w.heap.size pp ip ∧ Below w.heap.size w w') := by
  match s, h1, hs with
  | [a], h1, hs =>
    refine (read_o [a] w (by omega) h1 (by simp)).mono ?_
    rintro e w' ⟨rfl, hb⟩
    exact ⟨none, 0, none, 0, rfl, VI.zero w', Fr.none _, hb.out⟩
  | [a, b], h1, hs =>
    refine (read_o [a, b] w (by omega) h1 (by simp)).mono ?_
    rintro e w' ⟨rfl, hb⟩
    exact ⟨none, 0, none, 0, rfl, VI.zero w', Fr.none _, hb.out⟩
  | a :: b :: c :: r, h1, hs =>
    have hr : r.length ≤ 281474976710000 := by simp at hs; omega
    by_cases e1 : a = 1
    · subst e1; exact read_1 b c r w hr
    by_cases e2 : a = 2
    · subst e2; exact read_2 b c r w hr
    by_cases e3 : a = 3
    · subst e3; exact read_3 b c r w hr
    by_cases e4 : a = 4
    · subst e4; exact read_4 b c r w hr
    by_cases e5 : a = 5
    · subst e5; exact read_5 b c r w hr
    exact read_x a b c r w hr e1 e2 e3 e4 e5

end Go.Proofs.YtmjmdfenkhmfbaaDoor
