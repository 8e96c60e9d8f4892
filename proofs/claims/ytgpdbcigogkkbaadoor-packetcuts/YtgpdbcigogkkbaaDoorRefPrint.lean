/- A set written, by the document: ref Print. -/
import Derived.Test.YtgpdbcigogkkbaaDoorRefDec
import Derived.Test.YtgpdbcigogkkbaaDoorRefRanges
import Derived.Lib.AppendStr
namespace Go.Proofs.YtgpdbcigogkkbaaDoor
open Go.RowKit
open Slot

/-- a text under way, in a row of the call's own -/
structure Txt (B : Nat) (w1 : World) (W : World) (v : Value) (T : List UInt8) : Prop where
  own : W.ownsRow B 5 1 v T.length (Lib.byteCells T)
  bel : Below B w1 W
  size : B ≤ W.heap.size
theorem Txt.below {B : Nat} {w1 W W' : World} {v : Value} {T : List UInt8} (h : Txt B w1 W v T) (hb : Below W.heap.size W W') : Txt B w1 W' v T :=
  ⟨owns_below h.own hb, h.bel.trans (hb.mono h.size), Nat.le_trans h.size hb.size⟩
theorem Txt.drewN {B : Nat} {w1 W : World} {v : Value} {T : List UInt8} (h : Txt B w1 W v T) (n : Nat) : Txt B w1 (W.drewN n) v T := h.below (Below.drewN (Below.refl _ _) n)
theorem Txt.push {B : Nat} {w1 W : World} {v : Value} {T : List UInt8} (h : Txt B w1 W v T) (c : UInt8) (z : Int) (hz : (c.toNat : Int) = z) (hT : T.length ≤ 300000) :
    ∃ v' W', (Builtin.append_ #[36, 36] 36 #[v, .slice (some ⟨W.heap.size, 0, none⟩) 1 1]).run Tryd.prog (W.alloc (.cells #[.int .u8 z] 5)) = .ok v' W' ∧ Txt B w1 W' v' (T ++ [c]) := by
  subst hz
  obtain ⟨i0, hi, hz0, hz1, hz2⟩ := info_parts info5
  have hs := h.size
  have hown' := owns_below h.own (below_alloc W (.cells #[.int .u8 (c.toNat : Int)] 5))
  obtain ⟨v', w', hrun, ho, hgr, _⟩ := run_append_own (P := Tryd.prog) (W.alloc (.cells #[.int .u8 (c.toNat : Int)] 5)) B 36 36 5 i0 (.int .u8 0) 1 1 Tryd.underlying36 hi hz0 hz1 hz2 rfl (by decide) _ _ _ hown' ⟨W.heap.size, 0, none⟩ 1 1 [.int .u8 (c.toNat : Int)] rfl
    (fun j u hj => by
      rw [Go.WideShapes.add_plain, cell_of_row _ _ _ _ _ _ (heap_alloc_new W _)]
      simpa using hj)
    (fun u hu => by rw [List.mem_singleton.1 hu]; rfl) (by unfold maxLen; omega) (by omega) (by simp; omega)
  refine ⟨v', w', hrun, ?_, ?_, ?_⟩
  · rw [Lib.byteCells_append, List.length_append]
    exact ho
  · exact (h.bel.alloc hs _).grown hgr (by simp; omega) (fun k hk => (World.ownsRow.lt h.own k hk).1)
  · have := hgr.size; simp at this; omega
theorem Txt.str {B : Nat} {w1 W : World} {v : Value} {T : List UInt8} (h : Txt B w1 W v T) (l : List UInt8) (hT : T.length + l.length ≤ 300000) :
    ∃ v' W', (Builtin.append_ #[36, 9] 36 #[v, .string ⟨l.toArray⟩]).run Tryd.prog W = .ok v' W' ∧ Txt B w1 W' v' (T ++ l) := by
  obtain ⟨i0, hi, hz0, hz1, hz2⟩ := info_parts info5
  have hs := h.size
  have hsz : (⟨l.toArray⟩ : ByteArray).size = l.length := by simp [ByteArray.size]
  obtain ⟨v', w', hrun, ho, hgr, _⟩ := Lib.run_append_own_string (P := Tryd.prog) W B 36 9 36 5 i0 Tryd.underlying36 Tryd.underlying9 hi hz0 hz1 hz2 _ _ _ h.own ⟨l.toArray⟩ (by rw [hsz]; unfold maxLen; omega) (by rw [hsz]; omega) hs
  refine ⟨v', w', hrun, ?_, ?_, ?_⟩
  · rw [Lib.byteCells_append, List.length_append, ← hsz]
    exact ho
  · exact h.bel.grown hgr hs (fun k hk => (World.ownsRow.lt h.own k hk).1)
  · exact Nat.le_trans hs hgr.size
theorem wpList_append_runs {P : Program} {ops : Array Oper} {rest : List Oper} {o : Oper} {a : Act} {w : World} {Q : Exit → Act → World → Prop} (hw : Region.wanted o (yielded ops a.tmps) = true) (s x : Operand) (t u : TypeId)
    (ho : o.op = .call { callee := .builtin .append, args := #[s, x], argTypes := #[t, u] }) (v y v' : Value) (w' : World) (hs : a.eval s = v) (hx : a.eval x = y)
    (hrun : (Builtin.append_ #[t, u] o.type #[v, y]).run P w = .ok v' w') (h : wpList P ops Q rest (a.put o.dst v') w') : wpList P ops Q (o :: rest) a w := by
  refine wpList_step fun K hK => ?_
  rw [if_pos hw]
  unfold Oper.wp execOp
  simp only [ho, resolve, invoke, builtin, Sem.run_bind, Sem.run_pure, Result.andThen_ok, List.map_toArray, List.map_cons, List.map_nil, hs, hx, hrun]
  exact hK _ _ h

theorem owns_at {w : World} {B : Nat} {l : List (Nat × Nat)} {v : Value} (h : w.ownsRow B 53 2 v l.length (flat l)) (hne : l ≠ []) : ∃ g cap, v = .slice (some ⟨g, 0, none⟩) l.length cap ∧ g < w.heap.size ∧ ∀ j (hj : j < l.length), w.cell? ⟨g, j * 2, none⟩ = some (.int .i64 (l[j].1 : Int)) ∧ w.cell? ⟨g, j * 2 + 1, none⟩ = some (.int .i64 (l[j].2 : Int)) := by
  rcases h.2 with ⟨_, h0⟩ | ⟨g, cap, cur, rfl, hg, hh, h1, h2, h3, h4⟩
  · exact absurd (List.length_eq_zero_iff.1 h0) hne
  · refine ⟨g, cap, rfl, (Array.getElem?_eq_some_iff.1 hh).1, fun j hj => ?_⟩
    obtain ⟨f1, f2⟩ := flat_get l j hj
    have key : ∀ i u, (flat l)[i]? = some u → w.cell? ⟨g, i, none⟩ = some u := fun i u hu => by
      rw [cell_of_row w g i _ _ _ hh]
      rw [← h4, List.getElem?_take] at hu
      split at hu
      · simpa using hu
      · cases hu
    exact ⟨key _ _ f1, key _ _ f2⟩

set_option maxHeartbeats 2000000 in
set_option maxRecDepth 100000 in
/-- ref Print -/
theorem rPrint_any (S : Nat → Bool) (w : World) :
    Calls Tryd.prog 19 #[.agg (cellsOf S)] w fun e w' => (∃ l, Runs S 0 l ∧ e = .returned (.string ⟨(print l).toArray⟩)) ∧ Below w.heap.size w w' := by
  have HB0 := hid (box_new w S)
  have HRg := hid (fun W => rRanges_any S W)
  have HDec : Hid (∀ (n : Nat) W, n < 16384 → Calls Tryd.prog 32 #[.int .i64 n] W fun e w' => e = .returned (.string ⟨(dec n).toArray⟩) ∧ Below W.heap.size W w') := fun n W h => decimal_any 4 n W (by omega) h
  go_enter Tryd.func19, Tryd.ntmps19
  go_wp2_with (refine wpList_load_row rfl 24 _ rfl w.heap.size rfl 24 _ (0, 0) _ HB0.out Tryd.underlying24 rfl (infoBits _) (Hid.out ?_))
  refine hid ?_
  go_wp2_with fail
  refine (HRg.out _).mono ?_
  rintro e w1 ⟨⟨l, v, B, rfl, hruns, hB, hown⟩, hb1⟩
  have hlen : l.length ≤ 16384 := by have := hruns.length (by unfold top; omega); unfold top at this; omega
  have hval := hruns.valid
  have HRuns := hid hruns
  have HVal := hid hval
  have HW1 := hid ((below_alloc w (.cells (cellsOf S) 24)).trans (hb1.mono (by simp)))
  clear hruns hval hb1 hB
  by_cases hne : l = []
  · subst hne
    obtain ⟨a, cap, rfl⟩ : ∃ a cap, v = .slice a 0 cap := by
      rcases hown.2 with ⟨rfl, _⟩ | ⟨g, cap, cur, rfl, _⟩
      · exact ⟨none, 0, rfl⟩
      · exact ⟨_, cap, rfl⟩
    clear hown
    go_wp2
    refine wp_loop_rounds 1 ?_
    rw [rounds_succ]
    have hcv := owns_string (B := w1.heap.size) (W := w1) (v := .slice none 0 0) (T := []) (World.ownsRow_nil w1 w1.heap.size 5 1)
    go_wp2
    go_ret
    exact ⟨⟨[], HRuns.out, rfl⟩, HW1.out⟩
  · obtain ⟨b, cap, rfl, hblt, hc⟩ := owns_at hown hne
    have HC := hid hc
    clear hc hne hown HRg HB0
    go_wp2
    go_loopw [3, 5] (fun v i W => ∃ k : Nat, k ≤ l.length ∧ i = .int .i64 k ∧ Hid (Txt w1.heap.size w1 W v (print (l.take k)))) (fun _ i _ => l.length - (intOf i).toNat)
    case atStart => exact ⟨0, Nat.zero_le _, rfl, ⟨World.ownsRow_nil _ _ _ _, Below.refl _ _, Nat.le_refl _⟩⟩
    case round =>
      obtain ⟨k, hk, rfl, HO⟩ := hrel
      by_cases hlk : k < l.length
      · obtain ⟨c0, c1⟩ := HC.out k hlk
        obtain ⟨hv1, hv2⟩ := HVal.out l[k] (List.getElem_mem hlk)
        unfold top at hv2
        have HT := hid (print_take hlk)
        have hlT : (print (l.take k)).length ≤ 200000 := by
          have := print_len (l.take k) (fun p hp => HVal.out p (List.mem_of_mem_take hp))
          simp at this; omega
        generalize print (l.take k) = T at HT hlT HO
        generalize hp : l[k] = p at c0 c1 hv1 hv2 HT
        obtain ⟨f, t⟩ := p
        simp only at c0 c1 hv1 hv2
        have HCell : Hid (∀ W, Below w1.heap.size w1 W → W.cell? ⟨b, k * 2, none⟩ = some (.int .i64 f) ∧ W.cell? ⟨b, k * 2 + 1, none⟩ = some (.int .i64 t)) := fun W hW => ⟨by rw [hW.cell (p := ⟨b, k * 2, none⟩) hblt]; exact c0, by rw [hW.cell (p := ⟨b, k * 2 + 1, none⟩) hblt]; exact c1⟩
        have fl := dec_len f (by omega)
        have tl := dec_len t (by omega)
        clear c0 c1 hp
        by_cases hk0 : 0 < k
        · obtain ⟨v9, w9, hr9, h9⟩ := HO.out.push 32 32 (by decide) (by omega)
          have HR9 := hid hr9
          have H9 := hid h9
          obtain ⟨e8, e9⟩ := HCell.out w9 h9.bel
          rw [if_neg (by omega)] at HT
          clear hr9 h9
          go_wp2_with (at_builtin; refine wpList_append_run rfl _ _ 36 rfl _ _ _ _ rfl rfl HR9.out (Hid.out ?_))
          refine hid ?_
          go_wp2_with fail
          refine (HDec.out f _ (by omega)).mono ?_; rintro e w2 ⟨rfl, hb2⟩
          have H2 := H9.out.below hb2
          obtain ⟨v3, w3, hr3, h3⟩ := H2.str (dec f) (by first | omega | (simp; omega))
          have HR3 := hid hr3
          have H3 := hid h3
          obtain ⟨e2, e3⟩ := HCell.out w3 h3.bel
          clear hr3 h3 hb2 H2
          by_cases hlt : f < t
          · go_wp2_with (at_builtin; refine wpList_append_runs rfl _ _ 36 9 rfl _ _ _ _ rfl rfl HR3.out (Hid.out ?_))
            refine hid ?_
            go_wp2_with fail
            go_quiet ((fail))
            obtain ⟨Y, hY⟩ : ∃ Y, Y = w3.drewN nq := ⟨_, rfl⟩
            rw [← hY]
            have h4 : Txt w1.heap.size w1 Y v3 (T ++ [32] ++ dec f) := by rw [hY]; exact H3.out.drewN nq
            clear hY
            obtain ⟨v5, w5, hr5, h5⟩ := h4.push 45 45 (by decide) (by simp; omega)
            have HR5 := hid hr5
            have H5 := hid h5
            obtain ⟨e4, e5⟩ := HCell.out w5 h5.bel
            clear hr5 h5 h4
            go_wp2_with (at_builtin; refine wpList_append_run rfl _ _ 36 rfl _ _ _ _ rfl rfl HR5.out (Hid.out ?_))
            refine hid ?_
            go_wp2_with fail
            refine (HDec.out t _ (by omega)).mono ?_; rintro e w6 ⟨rfl, hb6⟩
            have H6 := H5.out.below hb6
            obtain ⟨v7, w7, hr7, h7⟩ := H6.str (dec t) (by simp; omega)
            have HR7 := hid hr7
            have HF : Hid (Txt w1.heap.size w1 w7 v7 (print (l.take (k + 1)))) := by unfold Hid; rw [HT.out]; simpa [piece, hlt] using h7
            clear hr7 h7 hb6 H6
            go_wp2_with (at_builtin; refine wpList_append_runs rfl _ _ 36 9 rfl _ _ _ _ rfl rfl HR7.out ?_)
            go_roundw
            case rel =>
              have hrel : ∃ k1 : Nat, k1 ≤ l.length ∧ Value.int .i64 ((k : Int) + 1) = .int .i64 k1 ∧ Hid (Txt w1.heap.size w1 w7 v7 (print (l.take k1))) := ⟨k + 1, by omega, by go_num, HF.out⟩
              first | exact hrel | ((repeat apply Exists.intro); exact ⟨hrel, rfl⟩)
            case measure => simp [intOf]; omega
          · have HF : Hid (∀ n, Txt w1.heap.size w1 (w3.drewN n) v3 (print (l.take (k + 1)))) := fun n => by rw [HT.out]; simpa [piece, hlt] using H3.out.drewN n
            go_wp2_with (at_builtin; refine wpList_append_runs rfl _ _ 36 9 rfl _ _ _ _ rfl rfl HR3.out (Hid.out ?_))
            refine hid ?_
            go_wp2_with fail
            go_quiet ((fail))
            go_wp2
            go_roundw
            case rel => exact ⟨k + 1, by omega, by go_num, HF.out _⟩
            case measure => simp [intOf]; omega
        · rw [if_pos (by omega)] at HT
          obtain ⟨e8, e9⟩ := HCell.out wr HO.out.bel
          go_wp2_with fail
          refine (HDec.out f _ (by omega)).mono ?_; rintro e w2 ⟨rfl, hb2⟩
          have H2 := HO.out.below hb2
          obtain ⟨v3, w3, hr3, h3⟩ := H2.str (dec f) (by first | omega | (simp; omega))
          have HR3 := hid hr3
          have H3 := hid h3
          obtain ⟨e2, e3⟩ := HCell.out w3 h3.bel
          clear hr3 h3 hb2 H2
          by_cases hlt : f < t
          · go_wp2_with (at_builtin; refine wpList_append_runs rfl _ _ 36 9 rfl _ _ _ _ rfl rfl HR3.out (Hid.out ?_))
            refine hid ?_
            go_wp2_with fail
            go_quiet ((fail))
            obtain ⟨Y, hY⟩ : ∃ Y, Y = w3.drewN nq := ⟨_, rfl⟩
            rw [← hY]
            have h4 : Txt w1.heap.size w1 Y v3 (T ++ dec f) := by rw [hY]; exact H3.out.drewN nq
            clear hY
            obtain ⟨v5, w5, hr5, h5⟩ := h4.push 45 45 (by decide) (by simp; omega)
            have HR5 := hid hr5
            have H5 := hid h5
            obtain ⟨e4, e5⟩ := HCell.out w5 h5.bel
            clear hr5 h5 h4
            go_wp2_with (at_builtin; refine wpList_append_run rfl _ _ 36 rfl _ _ _ _ rfl rfl HR5.out (Hid.out ?_))
            refine hid ?_
            go_wp2_with fail
            refine (HDec.out t _ (by omega)).mono ?_; rintro e w6 ⟨rfl, hb6⟩
            have H6 := H5.out.below hb6
            obtain ⟨v7, w7, hr7, h7⟩ := H6.str (dec t) (by simp; omega)
            have HR7 := hid hr7
            have HF : Hid (Txt w1.heap.size w1 w7 v7 (print (l.take (k + 1)))) := by unfold Hid; rw [HT.out]; simpa [piece, hlt] using h7
            clear hr7 h7 hb6 H6
            go_wp2_with (at_builtin; refine wpList_append_runs rfl _ _ 36 9 rfl _ _ _ _ rfl rfl HR7.out ?_)
            go_roundw
            case rel =>
              have hrel : ∃ k1 : Nat, k1 ≤ l.length ∧ Value.int .i64 ((k : Int) + 1) = .int .i64 k1 ∧ Hid (Txt w1.heap.size w1 w7 v7 (print (l.take k1))) := ⟨k + 1, by omega, by go_num, HF.out⟩
              first | exact hrel | ((repeat apply Exists.intro); exact ⟨hrel, rfl⟩)
            case measure => simp [intOf]; omega
          · have HF : Hid (∀ n, Txt w1.heap.size w1 (w3.drewN n) v3 (print (l.take (k + 1)))) := fun n => by rw [HT.out]; simpa [piece, hlt] using H3.out.drewN n
            go_wp2_with (at_builtin; refine wpList_append_runs rfl _ _ 36 9 rfl _ _ _ _ rfl rfl HR3.out (Hid.out ?_))
            refine hid ?_
            go_wp2_with fail
            go_quiet ((fail))
            go_wp2
            go_roundw
            case rel => exact ⟨k + 1, by omega, by go_num, HF.out _⟩
            case measure => simp [intOf]; omega
      · have e : l.take k = l := List.take_of_length_le (by omega)
        rw [e] at HO
        have hcv := owns_string HO.out.own
        go_wp2
        go_ret
        exact ⟨⟨l, HRuns.out, rfl⟩, HW1.out.trans (HO.out.bel.mono HW1.out.size)⟩

end Go.Proofs.YtgpdbcigogkkbaaDoor
