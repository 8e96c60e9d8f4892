/- RefDec, RefPrint, PkRef1, PkCut, PkRead, VwRight. -/
import Derived.Test.YtbfllifgmlkndaaGreatDoorM10
import Derived.Lib.AppendStr
import Derived.Test.YtbfllifgmlkndaaGreatDoorM09
import Derived.Test.YtbfllifgmlkndaaGreatDoorM13
import Derived.Laws.Strings2
import Derived.Test.YtbfllifgmlkndaaGreatDoorM11
namespace Go.Proofs.YtbfllifgmlkndaaGreatDoor
open Go.RowKit
open Slot

theorem conv_one (b : Nat) (c : UInt8) (W : World) (h : W.cell? ⟨b, 0, none⟩ = some (.int .u8 (c.toNat : Int))) : (convert 126 9 (.slice (some ⟨b, 0, none⟩) 1 1)).run Tryz.prog W = .ok (.string ⟨#[c]⟩) W :=
  run_convert_bytes_back (P := Tryz.prog) W 126 9 5 ⟨b, 0, none⟩ 1 [c] Tryz.underlying126 Tryz.underlying5 Tryz.underlying9 (fun j hj => by
    have : j = 0 := by simp at hj; omega
    subst this
    rw [Go.WideShapes.add_plain]
    simpa using h)
theorem digit_nat (n : Nat) (h : n < 10) : ((UInt8.ofNat (48 + n)).toNat : Int) = 48 + (n : Int) := by
  rw [UInt8.toNat_ofNat']; omega
theorem dec_small {n : Nat} (h : n < 10) : dec n = [UInt8.ofNat (48 + n)] := Lib.decDigits_one h
theorem dec_big {n : Nat} (h : ¬ n < 10) : dec n = dec (n / 10) ++ [UInt8.ofNat (48 + n % 10)] := by
  unfold dec; rw [Lib.decDigits, dif_neg h]

set_option maxHeartbeats 2000000 in
set_option maxRecDepth 100000 in
theorem decimal_any (k : Nat) : ∀ (n : Nat) (w : World), n < 10 ^ (k + 1) → n < 16384 →
    Calls Tryz.prog 79 #[.int .i64 n] w fun e w' => e = .returned (.string ⟨(dec n).toArray⟩) ∧ Below w.heap.size w w' := by
  have base : ∀ (n : Nat) (w : World), n < 10 → Calls Tryz.prog 79 #[.int .i64 n] w fun e w' => e = .returned (.string ⟨(dec n).toArray⟩) ∧ Below w.heap.size w w' := fun n w h => by
    obtain ⟨c, hc⟩ : ∃ c, c = UInt8.ofNat (48 + n) := ⟨_, rfl⟩
    have hcv := conv_one w.heap.size c (w.alloc (.cells #[.int .u8 (48 + (n : Int))] 5)) (by rw [hc, digit_nat n h]; simp)
    have HD : Hid ([c] = dec n) := by unfold Hid; rw [hc]; exact (dec_small h).symm
    clear hc
    go_enter Tryz.func79, Tryz.ntmps79
    go_wp2_with fail
    go_ret
    exact ⟨ret_str HD.out, below_alloc _ _⟩
  induction k with
  | zero => exact fun n w h _ => base n w (by omega)
  | succ k ih =>
    intro n w hn h16
    by_cases h10 : n < 10
    · exact base n w h10
    · obtain ⟨q, hq⟩ : ∃ q, q = n / 10 := ⟨_, rfl⟩
      obtain ⟨r, hr⟩ : ∃ q, q = n % 10 := ⟨_, rfl⟩
      obtain ⟨c, hc⟩ : ∃ c, c = UInt8.ofNat (48 + n % 10) := ⟨_, rfl⟩
      have q1 : (n : Int) / 10 = (q : Int) := by omega
      have q2 : (n : Int).tdiv 10 = (q : Int) := by rw [Int.tdiv_eq_ediv_of_nonneg (by omega)]; omega
      have q3 : IntKind.i64.wrap (q : Int) = (q : Int) := by rw [IntKind.wrap_i64]; omega
      have r1 : (n : Int) % 10 = (r : Int) := by omega
      have r2 : (n : Int).tmod 10 = (r : Int) := by rw [Int.tmod_eq_emod_of_nonneg (by omega)]; omega
      have r3 : IntKind.i64.wrap (48 + (r : Int)) = 48 + (r : Int) := by rw [IntKind.wrap_i64]; omega
      have r4 : IntKind.u8.wrap (48 + (r : Int)) = 48 + (r : Int) := by rw [IntKind.wrap_u8]; omega
      have hcr : ((c.toNat : Nat) : Int) = 48 + (r : Int) := by rw [hc, hr]; exact digit_nat _ (by omega)
      obtain ⟨D, hD⟩ : ∃ D, D = dec q := ⟨_, rfl⟩
      have HI := hid fun W => ih q W (by rw [Nat.pow_succ] at hn; omega) (by omega)
      rw [← hD] at HI
      obtain ⟨M, hM⟩ : ∃ M, M = dec n := ⟨_, rfl⟩
      have p1 : ((⟨D.toArray⟩ : ByteArray) ++ ⟨#[c]⟩) = ⟨M.toArray⟩ := by
        rw [hM, dec_big h10, ← hq, ← hD, ← hc]
        apply ByteArray.ext
        simp
      have hDl : D.length ≤ 5 := by rw [hD]; exact dec_len q (by omega)
      rw [← hM]
      have hcv0 := conv_one w.heap.size c ((w.alloc (.cells #[.int .u8 (48 + (r : Int))] 5)).drew) (by rw [hcr]; simp)
      have HCc := hid fun b W h => conv_one b c W h
      have hn10 : ¬ ((n : Int) < 10) := by omega
      clear hq hr hc hD hM ih base h10
      go_enter Tryz.func79, Tryz.ntmps79
      go_wp2_with fail
      go_region_with (first
        | (go_at_call 79; refine (HI.out ((w.alloc (.cells #[.int .u8 (48 + (r : Int))] 5)).drew)).mono ?_; rintro e w1 ⟨rfl, hb1⟩; have hx := HCc.out w.heap.size w1 (by rw [hb1.cell (p := ⟨w.heap.size, 0, none⟩) (by simp), hcr]; simp); have HB1 := hid (Below.trans ((below_alloc w _).drew) (hb1.mono (by simp))); clear hb1)
        | (go_at_call 79; refine (HI.out w.drew).mono ?_; rintro e w1 ⟨rfl, hb1⟩; have hx := HCc.out w1.heap.size (w1.alloc (.cells #[.int .u8 (48 + (r : Int))] 5)) (by rw [hcr]; simp); have HB1 := hid (Below.trans (Below.drew (Below.refl _ w)) hb1); clear hb1))
      all_goals go_wp2_with fail
      all_goals go_ret
      all_goals first
        | exact ⟨rfl, HB1.out.alloc HB1.out.size _⟩
        | exact ⟨rfl, HB1.out⟩

end Go.Proofs.YtbfllifgmlkndaaGreatDoor

namespace Go.Proofs.YtbfllifgmlkndaaGreatDoor
open Go.RowKit
open Slot

/-- a text under way, in a row of the call's own -/
structure Txt (B : Nat) (w1 : World) (W : World) (v : Value) (T : List UInt8) : Prop where
  own : W.ownsRow B 5 1 v T.length (Lib.byteCells T)
  bel : Below B w1 W
  size : B ≤ W.heap.size
theorem Txt.below {B : Nat} {w1 W W' : World} {v : Value} {T : List UInt8} (h : Txt B w1 W v T) (hb : Below W.heap.size W W') : Txt B w1 W' v T :=
  ⟨owns_below h.own hb, h.bel.trans (hb.mono h.size), Nat.le_trans h.size hb.size⟩
theorem Txt.drewN {B : Nat} {w1 W : World} {v : Value} {T : List UInt8} (h : Txt B w1 W v T) (n : Nat) : Txt B w1 (W.drewN n) v T := h.below (Below.drewN (Below.refl _ _) n)
theorem Txt.push {B : Nat} {w1 W : World} {v : Value} {T : List UInt8} (h : Txt B w1 W v T) (c : UInt8) (z : Int) (hz : (c.toNat : Int) = z) (hT : T.length ≤ 300000) :
    ∃ v' W', (Builtin.append_ #[126, 126] 126 #[v, .slice (some ⟨W.heap.size, 0, none⟩) 1 1]).run Tryz.prog (W.alloc (.cells #[.int .u8 z] 5)) = .ok v' W' ∧ Txt B w1 W' v' (T ++ [c]) := by
  subst hz
  obtain ⟨i0, hi, hz0, hz1, hz2⟩ := info_parts info5
  have hs := h.size
  have hown' := owns_below h.own (below_alloc W (.cells #[.int .u8 (c.toNat : Int)] 5))
  obtain ⟨v', w', hrun, ho, hgr, _⟩ := run_append_own (P := Tryz.prog) (W.alloc (.cells #[.int .u8 (c.toNat : Int)] 5)) B 126 126 5 i0 (.int .u8 0) 1 1 Tryz.underlying126 hi hz0 hz1 hz2 rfl (by decide) _ _ _ hown' ⟨W.heap.size, 0, none⟩ 1 1 [.int .u8 (c.toNat : Int)] rfl
    (fun j u hj => by
      rw [Go.WideShapes.add_plain, cell_of_row _ _ _ _ _ _ (heap_alloc_new W _)]
      simpa using hj)
    (fun u hu => by rw [List.mem_singleton.1 hu]; rfl) (by unfold maxLen; omega) (by omega) (by simp; omega)
  refine ⟨v', w', hrun, ?_, ?_, ?_⟩
  · rw [Lib.byteCells_append, List.length_append]
    exact ho
  · exact (h.bel.alloc hs _).grown hgr (by simp; omega) (fun k hk => (World.ownsRow.lt h.own k hk).1)
  · have := hgr.size; simp at this; omega
theorem Txt.str {B : Nat} {w1 W : World} {v : Value} {T : List UInt8} (h : Txt B w1 W v T) (l : List UInt8) (hT : T.length + l.length ≤ 300000) :
    ∃ v' W', (Builtin.append_ #[126, 9] 126 #[v, .string ⟨l.toArray⟩]).run Tryz.prog W = .ok v' W' ∧ Txt B w1 W' v' (T ++ l) := by
  obtain ⟨i0, hi, hz0, hz1, hz2⟩ := info_parts info5
  have hs := h.size
  have hsz : (⟨l.toArray⟩ : ByteArray).size = l.length := by simp [ByteArray.size]
  obtain ⟨v', w', hrun, ho, hgr, _⟩ := Lib.run_append_own_string (P := Tryz.prog) W B 126 9 126 5 i0 Tryz.underlying126 Tryz.underlying9 hi hz0 hz1 hz2 _ _ _ h.own ⟨l.toArray⟩ (by rw [hsz]; unfold maxLen; omega) (by rw [hsz]; omega) hs
  refine ⟨v', w', hrun, ?_, ?_, ?_⟩
  · rw [Lib.byteCells_append, List.length_append, ← hsz]
    exact ho
  · exact h.bel.grown hgr hs (fun k hk => (World.ownsRow.lt h.own k hk).1)
  · exact Nat.le_trans hs hgr.size
theorem wpList_append_runs {P : Program} {ops : Array Oper} {rest : List Oper} {o : Oper} {a : Act} {w : World} {Q : Exit → Act → World → Prop} (hw : Region.wanted o (yielded ops a.tmps) = true) (s x : Operand) (t u : TypeId)
    (ho : o.op = .call { callee := .builtin .append, args := #[s, x], argTypes := #[t, u] }) (v y v' : Value) (w' : World) (hs : a.eval s = v) (hx : a.eval x = y)
    (hrun : (Builtin.append_ #[t, u] o.type #[v, y]).run P w = .ok v' w') (h : wpList P ops Q rest (a.put o.dst v') w') : wpList P ops Q (o :: rest) a w := by
  refine wpList_step fun K hK => ?_
  rw [if_pos hw]
  unfold Oper.wp execOp
  simp only [ho, resolve, invoke, builtin, Sem.run_bind, Sem.run_pure, Result.andThen_ok, List.map_toArray, List.map_cons, List.map_nil, hs, hx, hrun]
  exact hK _ _ h

theorem owns_at {w : World} {B : Nat} {l : List (Nat × Nat)} {v : Value} (h : w.ownsRow B 116 2 v l.length (flat l)) (hne : l ≠ []) : ∃ g cap, v = .slice (some ⟨g, 0, none⟩) l.length cap ∧ g < w.heap.size ∧ ∀ j (hj : j < l.length), w.cell? ⟨g, j * 2, none⟩ = some (.int .i64 (l[j].1 : Int)) ∧ w.cell? ⟨g, j * 2 + 1, none⟩ = some (.int .i64 (l[j].2 : Int)) := by
  rcases h.2 with ⟨_, h0⟩ | ⟨g, cap, cur, rfl, hg, hh, h1, h2, h3, h4⟩
  · exact absurd (List.length_eq_zero_iff.1 h0) hne
  · refine ⟨g, cap, rfl, (Array.getElem?_eq_some_iff.1 hh).1, fun j hj => ?_⟩
    obtain ⟨f1, f2⟩ := flat_get l j hj
    have key : ∀ i u, (flat l)[i]? = some u → w.cell? ⟨g, i, none⟩ = some u := fun i u hu => by
      rw [cell_of_row w g i _ _ _ hh]
      rw [← h4, List.getElem?_take] at hu
      split at hu
      · simpa using hu
      · cases hu
    exact ⟨key _ _ f1, key _ _ f2⟩

set_option maxHeartbeats 2000000 in
set_option maxRecDepth 100000 in
/-- ref Print -/
theorem rPrint_any (S : Nat → Bool) (w : World) :
    Calls Tryz.prog 62 #[.agg (cellsOf S)] w fun e w' => (∃ l, Runs S 0 l ∧ e = .returned (.string ⟨(print l).toArray⟩)) ∧ Below w.heap.size w w' := by
  have HB0 := hid (box_new w S)
  have HRg := hid (fun W => rRanges_any S W)
  have HDec : Hid (∀ (n : Nat) W, n < 16384 → Calls Tryz.prog 79 #[.int .i64 n] W fun e w' => e = .returned (.string ⟨(dec n).toArray⟩) ∧ Below W.heap.size W w') := fun n W h => decimal_any 4 n W (by omega) h
  go_enter Tryz.func62, Tryz.ntmps62
  go_wp2_with (refine wpList_load_row rfl 24 _ rfl w.heap.size rfl 24 _ (0, 0) _ HB0.out Tryz.underlying24 rfl (infoBits _) (Hid.out ?_))
  refine hid ?_
  go_wp2_with fail
  refine (HRg.out _).mono ?_
  rintro e w1 ⟨⟨l, v, B, rfl, hruns, hB, hown⟩, hb1⟩
  have hlen : l.length ≤ 16384 := by have := hruns.length (by unfold top; omega); unfold top at this; omega
  have hval := hruns.valid
  have HRuns := hid hruns
  have HVal := hid hval
  have HW1 := hid ((below_alloc w (.cells (cellsOf S) 24)).trans (hb1.mono (by simp)))
  clear hruns hval hb1 hB
  by_cases hne : l = []
  · subst hne
    obtain ⟨a, cap, rfl⟩ : ∃ a cap, v = .slice a 0 cap := by
      rcases hown.2 with ⟨rfl, _⟩ | ⟨g, cap, cur, rfl, _⟩
      · exact ⟨none, 0, rfl⟩
      · exact ⟨_, cap, rfl⟩
    clear hown
    go_wp2
    refine wp_loop_rounds 1 ?_
    rw [rounds_succ]
    have hcv := owns_string (B := w1.heap.size) (W := w1) (v := .slice none 0 0) (T := []) (World.ownsRow_nil w1 w1.heap.size 5 1)
    go_wp2
    go_ret
    exact ⟨⟨[], HRuns.out, rfl⟩, HW1.out⟩
  · obtain ⟨b, cap, rfl, hblt, hc⟩ := owns_at hown hne
    have HC := hid hc
    clear hc hne hown HRg HB0
    go_wp2
    go_loopw [3, 5] (fun v i W => ∃ k : Nat, k ≤ l.length ∧ i = .int .i64 k ∧ Hid (Txt w1.heap.size w1 W v (print (l.take k)))) (fun _ i _ => l.length - (intOf i).toNat)
    case atStart => exact ⟨0, Nat.zero_le _, rfl, ⟨World.ownsRow_nil _ _ _ _, Below.refl _ _, Nat.le_refl _⟩⟩
    case round =>
      obtain ⟨k, hk, rfl, HO⟩ := hrel
      by_cases hlk : k < l.length
      · obtain ⟨c0, c1⟩ := HC.out k hlk
        obtain ⟨hv1, hv2⟩ := HVal.out l[k] (List.getElem_mem hlk)
        unfold top at hv2
        have HT := hid (print_take hlk)
        have hlT : (print (l.take k)).length ≤ 200000 := by
          have := print_len (l.take k) (fun p hp => HVal.out p (List.mem_of_mem_take hp))
          simp at this; omega
        generalize print (l.take k) = T at HT hlT HO
        generalize hp : l[k] = p at c0 c1 hv1 hv2 HT
        obtain ⟨f, t⟩ := p
        simp only at c0 c1 hv1 hv2
        have HCell : Hid (∀ W, Below w1.heap.size w1 W → W.cell? ⟨b, k * 2, none⟩ = some (.int .i64 f) ∧ W.cell? ⟨b, k * 2 + 1, none⟩ = some (.int .i64 t)) := fun W hW => ⟨by rw [hW.cell (p := ⟨b, k * 2, none⟩) hblt]; exact c0, by rw [hW.cell (p := ⟨b, k * 2 + 1, none⟩) hblt]; exact c1⟩
        have fl := dec_len f (by omega)
        have tl := dec_len t (by omega)
        clear c0 c1 hp
        by_cases hk0 : 0 < k
        · obtain ⟨v9, w9, hr9, h9⟩ := HO.out.push 32 32 (by decide) (by omega)
          have HR9 := hid hr9
          have H9 := hid h9
          obtain ⟨e8, e9⟩ := HCell.out w9 h9.bel
          rw [if_neg (by omega)] at HT
          clear hr9 h9
          go_wp2_with (at_builtin; refine wpList_append_run rfl _ _ 126 rfl _ _ _ _ rfl rfl HR9.out (Hid.out ?_))
          refine hid ?_
          go_wp2_with fail
          refine (HDec.out f _ (by omega)).mono ?_; rintro e w2 ⟨rfl, hb2⟩
          have H2 := H9.out.below hb2
          obtain ⟨v3, w3, hr3, h3⟩ := H2.str (dec f) (by first | omega | (simp; omega))
          have HR3 := hid hr3
          have H3 := hid h3
          obtain ⟨e2, e3⟩ := HCell.out w3 h3.bel
          clear hr3 h3 hb2 H2
          by_cases hlt : f < t
          · go_wp2_with (at_builtin; refine wpList_append_runs rfl _ _ 126 9 rfl _ _ _ _ rfl rfl HR3.out (Hid.out ?_))
            refine hid ?_
            go_wp2_with fail
            go_quiet ((fail))
            obtain ⟨Y, hY⟩ : ∃ Y, Y = w3.drewN nq := ⟨_, rfl⟩
            rw [← hY]
            have h4 : Txt w1.heap.size w1 Y v3 (T ++ [32] ++ dec f) := by rw [hY]; exact H3.out.drewN nq
            clear hY
            obtain ⟨v5, w5, hr5, h5⟩ := h4.push 45 45 (by decide) (by simp; omega)
            have HR5 := hid hr5
            have H5 := hid h5
            obtain ⟨e4, e5⟩ := HCell.out w5 h5.bel
            clear hr5 h5 h4
            go_wp2_with (at_builtin; refine wpList_append_run rfl _ _ 126 rfl _ _ _ _ rfl rfl HR5.out (Hid.out ?_))
            refine hid ?_
            go_wp2_with fail
            refine (HDec.out t _ (by omega)).mono ?_; rintro e w6 ⟨rfl, hb6⟩
            have H6 := H5.out.below hb6
            obtain ⟨v7, w7, hr7, h7⟩ := H6.str (dec t) (by simp; omega)
            have HR7 := hid hr7
            have HF : Hid (Txt w1.heap.size w1 w7 v7 (print (l.take (k + 1)))) := by unfold Hid; rw [HT.out]; simpa [piece, hlt] using h7
            clear hr7 h7 hb6 H6
            go_wp2_with (at_builtin; refine wpList_append_runs rfl _ _ 126 9 rfl _ _ _ _ rfl rfl HR7.out ?_)
            go_roundw
            case rel =>
              have hrel : ∃ k1 : Nat, k1 ≤ l.length ∧ Value.int .i64 ((k : Int) + 1) = .int .i64 k1 ∧ Hid (Txt w1.heap.size w1 w7 v7 (print (l.take k1))) := ⟨k + 1, by omega, by go_num, HF.out⟩
              first | exact hrel | ((repeat apply Exists.intro); exact ⟨hrel, rfl⟩)
            case measure => simp [intOf]; omega
          · have HF : Hid (∀ n, Txt w1.heap.size w1 (w3.drewN n) v3 (print (l.take (k + 1)))) := fun n => by rw [HT.out]; simpa [piece, hlt] using H3.out.drewN n
            go_wp2_with (at_builtin; refine wpList_append_runs rfl _ _ 126 9 rfl _ _ _ _ rfl rfl HR3.out (Hid.out ?_))
            refine hid ?_
            go_wp2_with fail
            go_quiet ((fail))
            go_wp2
            go_roundw
            case rel => exact ⟨k + 1, by omega, by go_num, HF.out _⟩
            case measure => simp [intOf]; omega
        · rw [if_pos (by omega)] at HT
          obtain ⟨e8, e9⟩ := HCell.out wr HO.out.bel
          go_wp2_with fail
          refine (HDec.out f _ (by omega)).mono ?_; rintro e w2 ⟨rfl, hb2⟩
          have H2 := HO.out.below hb2
          obtain ⟨v3, w3, hr3, h3⟩ := H2.str (dec f) (by first | omega | (simp; omega))
          have HR3 := hid hr3
          have H3 := hid h3
          obtain ⟨e2, e3⟩ := HCell.out w3 h3.bel
          clear hr3 h3 hb2 H2
          by_cases hlt : f < t
          · go_wp2_with (at_builtin; refine wpList_append_runs rfl _ _ 126 9 rfl _ _ _ _ rfl rfl HR3.out (Hid.out ?_))
            refine hid ?_
            go_wp2_with fail
            go_quiet ((fail))
            obtain ⟨Y, hY⟩ : ∃ Y, Y = w3.drewN nq := ⟨_, rfl⟩
            rw [← hY]
            have h4 : Txt w1.heap.size w1 Y v3 (T ++ dec f) := by rw [hY]; exact H3.out.drewN nq
            clear hY
            obtain ⟨v5, w5, hr5, h5⟩ := h4.push 45 45 (by decide) (by simp; omega)
            have HR5 := hid hr5
            have H5 := hid h5
            obtain ⟨e4, e5⟩ := HCell.out w5 h5.bel
            clear hr5 h5 h4
            go_wp2_with (at_builtin; refine wpList_append_run rfl _ _ 126 rfl _ _ _ _ rfl rfl HR5.out (Hid.out ?_))
            refine hid ?_
            go_wp2_with fail
            refine (HDec.out t _ (by omega)).mono ?_; rintro e w6 ⟨rfl, hb6⟩
            have H6 := H5.out.below hb6
            obtain ⟨v7, w7, hr7, h7⟩ := H6.str (dec t) (by simp; omega)
            have HR7 := hid hr7
            have HF : Hid (Txt w1.heap.size w1 w7 v7 (print (l.take (k + 1)))) := by unfold Hid; rw [HT.out]; simpa [piece, hlt] using h7
            clear hr7 h7 hb6 H6
            go_wp2_with (at_builtin; refine wpList_append_runs rfl _ _ 126 9 rfl _ _ _ _ rfl rfl HR7.out ?_)
            go_roundw
            case rel =>
              have hrel : ∃ k1 : Nat, k1 ≤ l.length ∧ Value.int .i64 ((k : Int) + 1) = .int .i64 k1 ∧ Hid (Txt w1.heap.size w1 w7 v7 (print (l.take k1))) := ⟨k + 1, by omega, by go_num, HF.out⟩
              first | exact hrel | ((repeat apply Exists.intro); exact ⟨hrel, rfl⟩)
            case measure => simp [intOf]; omega
          · have HF : Hid (∀ n, Txt w1.heap.size w1 (w3.drewN n) v3 (print (l.take (k + 1)))) := fun n => by rw [HT.out]; simpa [piece, hlt] using H3.out.drewN n
            go_wp2_with (at_builtin; refine wpList_append_runs rfl _ _ 126 9 rfl _ _ _ _ rfl rfl HR3.out (Hid.out ?_))
            refine hid ?_
            go_wp2_with fail
            go_quiet ((fail))
            go_wp2
            go_roundw
            case rel => exact ⟨k + 1, by omega, by go_num, HF.out _⟩
            case measure => simp [intOf]; omega
      · have e : l.take k = l := List.take_of_length_le (by omega)
        rw [e] at HO
        have hcv := owns_string HO.out.own
        go_wp2
        go_ret
        exact ⟨⟨l, HRuns.out, rfl⟩, HW1.out.trans (HO.out.bel.mono HW1.out.size)⟩

end Go.Proofs.YtbfllifgmlkndaaGreatDoor

namespace Go.Proofs.YtbfllifgmlkndaaGreatDoor
open Go.RowKit
open Slot

set_option maxHeartbeats 2000000 in
theorem rright_core (k f o : Int) (ep cu : Nat) (S : Nat → Bool) (w : World) : Calls Tryz.prog 63 #[.agg (pkCells ⟨k, f, o, ep, cu, S⟩)] w fun e w' => e = .returned (.bool (rightP ⟨k, f, o, ep, cu, S⟩)) ∧ Below w.heap.size w w' := by
  have HP := hid (pbox_new w ⟨k, f, o, ep, cu, S⟩)
  have HW := hid (below_alloc w (.cells (pkCells ⟨k, f, o, ep, cu, S⟩) 53))
  obtain ⟨c0, c1, c2, c3, c4⟩ := HP.out.cells
  dsimp only at c0 c1 c2 c3 c4
  have HF : Hid (rightP ⟨k, f, o, ep, cu, S⟩ = decide ((k = 1 ∨ k = 2 ∨ k = 3 ∨ k = 4) ∧ (0 ≤ f ∧ f < 64) ∧ (0 ≤ o ∧ o < 64) ∧ (k = 3 ∨ o = 0) ∧ ep ≤ cu)) := rfl
  generalize rightP ⟨k, f, o, ep, cu, S⟩ = R at HF ⊢
  generalize pkCells ⟨k, f, o, ep, cu, S⟩ = PC at *
  by_cases h1 : k < 1
  · obtain rfl : R = false := by rw [HF.out]; exact decide_eq_false (by omega)
    go_enter Tryz.func63, Tryz.ntmps63
    go_wp2
    go_ret
    exact ⟨rfl, HW.out⟩
  by_cases h2 : 4 < k
  · obtain rfl : R = false := by rw [HF.out]; exact decide_eq_false (by omega)
    go_enter Tryz.func63, Tryz.ntmps63
    go_wp2
    go_ret
    exact ⟨rfl, HW.out⟩
  by_cases h3 : f < 0
  · obtain rfl : R = false := by rw [HF.out]; exact decide_eq_false (by omega)
    go_enter Tryz.func63, Tryz.ntmps63
    go_wp2
    go_ret
    exact ⟨rfl, HW.out⟩
  by_cases h4 : 63 < f
  · obtain rfl : R = false := by rw [HF.out]; exact decide_eq_false (by omega)
    go_enter Tryz.func63, Tryz.ntmps63
    go_wp2
    go_ret
    exact ⟨rfl, HW.out⟩
  by_cases h5 : (cu : Int) < (ep : Int)
  · obtain rfl : R = false := by rw [HF.out]; exact decide_eq_false (by omega)
    go_enter Tryz.func63, Tryz.ntmps63
    go_wp2
    go_ret
    exact ⟨rfl, HW.out⟩
  by_cases h6 : k = 3
  · subst h6
    by_cases h7 : 0 ≤ o
    · by_cases h8 : o ≤ 63
      · obtain rfl : R = true := by rw [HF.out]; exact decide_eq_true (by omega)
        go_enter Tryz.func63, Tryz.ntmps63
        go_wp2
        go_ret
        exact ⟨rfl, HW.out⟩
      · obtain rfl : R = false := by rw [HF.out]; exact decide_eq_false (by omega)
        go_enter Tryz.func63, Tryz.ntmps63
        go_wp2
        go_ret
        exact ⟨rfl, HW.out⟩
    · obtain rfl : R = false := by rw [HF.out]; exact decide_eq_false (by omega)
      go_enter Tryz.func63, Tryz.ntmps63
      go_wp2
      go_ret
      exact ⟨rfl, HW.out⟩
  · by_cases h7 : o = 0
    · obtain rfl : R = true := by rw [HF.out]; exact decide_eq_true (by omega)
      subst h7
      go_enter Tryz.func63, Tryz.ntmps63
      go_wp2
      go_ret
      exact ⟨rfl, HW.out⟩
    · obtain rfl : R = false := by rw [HF.out]; exact decide_eq_false (by omega)
      have h7' : (o == 0) = false := by simpa using h7
      go_enter Tryz.func63, Tryz.ntmps63
      go_wp2
      go_ret
      exact ⟨rfl, HW.out⟩
/-- the document's Right -/
theorem rright_any (p : Pk) (w : World) : Calls Tryz.prog 63 #[.agg (pkCells p)] w fun e w' => e = .returned (.bool (rightP p)) ∧ Below w.heap.size w w' :=
  rright_core p.kind p.frm p.of_ p.epoch p.cur p.cl w

theorem owns_base {w : World} {B N : Nat} {v : Value} {n : Nat} {xs : List Value} (h : w.ownsRow N 5 1 v n xs) (hB : B ≤ N) : w.ownsRow B 5 1 v n xs := by
  refine ⟨h.1, ?_⟩
  rcases h.2 with h | ⟨g, cap, cur, e, hb, rest⟩
  · exact .inl h
  · exact .inr ⟨g, cap, cur, e, Nat.le_trans hB hb, rest⟩
/-- a byte ahead of a text -/
theorem Txt.front {B : Nat} {w1 W : World} {v : Value} {T : Bs} (h : Txt B w1 W v T) (c : UInt8) (z : Int) (hz : (c.toNat : Int) = z) (hT : T.length ≤ 300000) :
    ∃ v' W', (Builtin.append_ #[126, 126] 126 #[.slice (some ⟨W.heap.size, 0, none⟩) 1 1, v]).run Tryz.prog (W.alloc (.cells #[.int .u8 z] 5)) = .ok v' W' ∧ Txt B w1 W' v' (c :: T) := by
  subst hz
  obtain ⟨i0, hi, hz0, hz1, hz2⟩ := info_parts info5
  have hs := h.size
  have hd : (W.alloc (.cells #[.int .u8 (c.toNat : Int)] 5)).ownsRow W.heap.size 5 1 (.slice (some ⟨W.heap.size, 0, none⟩) 1 1) 1 (Lib.byteCells [c]) :=
    ⟨rfl, .inr ⟨W.heap.size, 1, _, rfl, Nat.le_refl _, heap_alloc_new W _, Nat.le_refl _, by unfold maxLen; omega, rfl, rfl⟩⟩
  have hb := below_alloc W (.cells #[.int .u8 (c.toNat : Int)] 5)
  have hown' := owns_below h.own hb
  rcases hown'.2 with ⟨rfl, h0⟩ | ⟨g, cap, cur, rfl, _⟩
  · obtain rfl : T = [] := List.length_eq_zero_iff.1 h0
    exact ⟨_, _, run_append_owned_none (P := Tryz.prog) _ W.heap.size 126 126 5 i0 1 Tryz.underlying126 hi _ _ _ hd, owns_base hd hs, h.bel.alloc hs _, Nat.le_trans hs hb.size⟩
  · obtain ⟨v', w', hrun, ho, hgr, _⟩ := run_append_own (P := Tryz.prog) (W.alloc (.cells #[.int .u8 (c.toNat : Int)] 5)) W.heap.size 126 126 5 i0 (.int .u8 0) 1 1 Tryz.underlying126 hi hz0 hz1 hz2 rfl (by decide) _ _ _ hd ⟨g, 0, none⟩ T.length cap (Lib.byteCells T) (by rw [Lib.byteCells_length]; omega)
      (fun j u hj => World.ownsRow.cells hown' (g := g) rfl j u hj) (fun u hu => by
        unfold Lib.byteCells at hu
        obtain ⟨b, _, rfl⟩ := List.mem_map.1 hu
        rfl) (by unfold maxLen; omega) (by omega) hb.size
    refine ⟨v', w', hrun, ?_, ?_, ?_⟩
    · have := owns_base ho hs
      rw [← Lib.byteCells_append] at this
      rw [List.length_cons, Nat.add_comm]
      exact this
    · exact (h.bel.alloc hs _).grown hgr (Nat.le_trans hs hb.size) (fun k hk => Nat.le_trans hs (World.ownsRow.lt hd k hk).1)
    · exact Nat.le_trans hs (Nat.le_trans hb.size hgr.size)
/-- a row of bytes behind a text -/
theorem Txt.row {B N : Nat} {w1 W : World} {v u : Value} {T S : Bs} (h : Txt B w1 W v T) (h2 : W.ownsRow N 5 1 u S.length (Lib.byteCells S)) (hT : T.length + S.length ≤ 300000) :
    ∃ v' W', (Builtin.append_ #[126, 126] 126 #[v, u]).run Tryz.prog W = .ok v' W' ∧ Txt B w1 W' v' (T ++ S) := by
  obtain ⟨i0, hi, hz0, hz1, hz2⟩ := info_parts info5
  have hs := h.size
  rcases h2.2 with ⟨rfl, h0⟩ | ⟨g, cap, cur, rfl, _⟩
  · obtain rfl : S = [] := List.length_eq_zero_iff.1 h0
    exact ⟨_, _, run_append_owned_none (P := Tryz.prog) _ B 126 126 5 i0 1 Tryz.underlying126 hi _ _ _ h.own, by rw [List.append_nil]; exact h⟩
  · obtain ⟨v', w', hrun, ho, hgr, _⟩ := run_append_own (P := Tryz.prog) W B 126 126 5 i0 (.int .u8 0) 1 1 Tryz.underlying126 hi hz0 hz1 hz2 rfl (by decide) _ _ _ h.own ⟨g, 0, none⟩ S.length cap (Lib.byteCells S) (by rw [Lib.byteCells_length]; omega)
      (fun j u hj => World.ownsRow.cells h2 (g := g) rfl j u hj) (fun u hu => by
        unfold Lib.byteCells at hu
        obtain ⟨b, _, rfl⟩ := List.mem_map.1 hu
        rfl) (by unfold maxLen; omega) (by omega) hs
    refine ⟨v', w', hrun, ?_, ?_, ?_⟩
    · rw [Lib.byteCells_append, List.length_append]
      exact ho
    · exact h.bel.grown hgr hs (fun k hk => (World.ownsRow.lt h.own k hk).1)
    · exact Nat.le_trans hs hgr.size
/-- a row of bytes behind one that is full: the row is a new one -/
theorem row_grow {B N g cap : Nat} {W : World} {u : Value} {T S : Bs} (h : W.ownsRow B 5 1 (.slice (some ⟨g, 0, none⟩) T.length cap) T.length (Lib.byteCells T)) (hB : B ≤ W.heap.size) (h2 : W.ownsRow N 5 1 u S.length (Lib.byteCells S)) (hS : S ≠ []) (hc : cap < T.length + S.length) (hT : T.length + S.length ≤ 300000) :
    ∃ v' W', (Builtin.append_ #[126, 126] 126 #[.slice (some ⟨g, 0, none⟩) T.length cap, u]).run Tryz.prog W = .ok v' W' ∧ Txt W.heap.size W W' v' (T ++ S) := by
  obtain ⟨i0, hi, hz0, hz1, hz2⟩ := info_parts info5
  rcases h2.2 with ⟨rfl, h0⟩ | ⟨g2, cap2, cur2, rfl, _⟩
  · exact absurd (List.length_eq_zero_iff.1 h0) hS
  · have hone : ∀ u ∈ Lib.byteCells S, u.oneCell' = true := fun u hu => by
      unfold Lib.byteCells at hu
      obtain ⟨b, _, rfl⟩ := List.mem_map.1 hu
      rfl
    have hcl : ∀ j u, (Lib.byteCells S)[j]? = some u → W.cell? ((⟨g2, 0, none⟩ : Addr).add j) = some u := fun j u hj => World.ownsRow.cells h2 (g := g2) rfl j u hj
    obtain ⟨v', w', hrun, ho, hgr, _⟩ := run_append_own (P := Tryz.prog) W B 126 126 5 i0 (.int .u8 0) 1 1 Tryz.underlying126 hi hz0 hz1 hz2 rfl (by decide) _ _ _ h ⟨g2, 0, none⟩ S.length cap2 (Lib.byteCells S) (by rw [Lib.byteCells_length]; omega) hcl hone (by unfold maxLen; omega) (by omega) hB
    have hr := run_append_grow (P := Tryz.prog) W 126 126 5 i0 _ Tryz.underlying126 hi hz0 ⟨g, 0, none⟩ T.length cap (Lib.byteCells T) (by rw [hz1, Lib.byteCells_length]; omega) (World.ownsRow.cells h (g := g) rfl) ⟨g2, 0, none⟩ S.length cap2 (Lib.byteCells S) (by rw [hz1, Lib.byteCells_length]; omega) hcl hc (by omega) (growslice_fits (by omega) (by rw [hz2]; omega))
    rw [hr] at hrun
    injection hrun with e1 e2
    subst e1
    subst e2
    refine ⟨_, _, hr, ⟨?_, ?_⟩, ?_, ?_⟩
    · rw [Lib.byteCells_length]; omega
    · rcases ho.2 with ⟨e, _⟩ | ⟨g', cap', cur', e, _, h3, h4, h5, h6, h7⟩
      · cases e
      · injection e with e e8 e9
        injection e with e
        injection e with e
        refine .inr ⟨g', cap', cur', ?_, by omega, h3, ?_, h5, h6, ?_⟩
        · rw [← e, ← e9, List.length_append]
        · rw [List.length_append]; exact h4
        · rw [Lib.byteCells_append, List.length_append]; exact h7
    · exact (Below.refl _ _).drew.alloc (Nat.le_refl _) _
    · simp
theorem div_pow (n j : Nat) : n / 256 ^ (j + 1) = n / 256 ^ j / 256 := by rw [Nat.pow_succ, Nat.div_div_eq_div_mul]
set_option maxHeartbeats 2000000 in
/-- the document's bytes -/
theorem rbytes_any (k n : Nat) (hk : k ≤ 8) (hn : n < 18446744073709551616) (w : World) : Calls Tryz.prog 64 #[.int .u64 n, .int .i64 k] w fun e w' => ∃ v, e = .returned v ∧ Txt w.heap.size w w' v (be k n) := by
  have HN : Hid (n / 256 ^ 0 = n) := by show _ = _; simp
  go_enter Tryz.func64, Tryz.ntmps64
  go_wp2
  go_loopw [0, 5, 6] (fun x v i W => ∃ j : Nat, j ≤ k ∧ i = .int .i64 j ∧ (∃ M : Nat, x = .int .u64 (M : Int) ∧ Hid (M = n / 256 ^ j)) ∧ Hid (Txt w.heap.size w W v (be j n))) (fun _ _ i _ => k - (intOf i).toNat)
  case atStart => exact ⟨0, Nat.zero_le _, rfl, ⟨n, rfl, HN.out.symm⟩, ⟨World.ownsRow_nil _ _ _ _, Below.refl _ _, Nat.le_refl _⟩⟩
  case round =>
    obtain ⟨j, hj, rfl, ⟨M, rfl, HM⟩, HO⟩ := hrel
    by_cases hlt : j < k
    · have hM : M < 18446744073709551616 := by rw [HM.out]; exact Nat.lt_of_le_of_lt (Nat.div_le_self _ _) hn
      obtain ⟨x, hx⟩ : ∃ x, x = M % 256 := ⟨_, rfl⟩
      obtain ⟨q, hq⟩ : ∃ q, q = M / 256 := ⟨_, rfl⟩
      have x1 : (M : Int) % 256 = (x : Int) := by omega
      have x2 : (M : Int).tmod 256 = (x : Int) := by rw [Int.tmod_eq_emod_of_nonneg (by omega)]; omega
      have x3 : IntKind.u8.wrap (x : Int) = (x : Int) := by rw [IntKind.wrap_u8]; omega
      have x4 : (x : Int) ≤ 255 := by omega
      have q1 : (M : Int) / 256 = (q : Int) := by omega
      have q2 : (M : Int).tdiv 256 = (q : Int) := by rw [Int.tdiv_eq_ediv_of_nonneg (by omega)]; omega
      have HQ : Hid (q = n / 256 ^ (j + 1)) := by show _ = _; rw [div_pow, ← HM.out, hq]
      have hlb : (be j n).length ≤ 8 := by rw [be_len]; omega
      obtain ⟨v', W', hr, hT⟩ := HO.out.front (UInt8.ofNat (n / 256 ^ j)) (x : Int) (by rw [UInt8.toNat_ofNat', ← HM.out, hx]) (by omega)
      have HR := hid hr
      have HT : Hid (Txt w.heap.size w W' v' (be (j + 1) n)) := hT
      clear hr hT hx hq hlb
      go_wp2_with (at_builtin; refine wpList_append_run rfl _ _ 126 rfl _ _ _ _ rfl rfl HR.out (Hid.out ?_))
      refine hid ?_
      go_wp2_with fail
      go_roundw
      case rel => exact ⟨j + 1, by omega, by go_num, ⟨q, rfl, HQ.out⟩, HT.out⟩
      case measure => simp [intOf]; omega
    · obtain rfl : j = k := by omega
      go_wp2
      go_ret
      exact ⟨_, rfl, HO.out⟩

end Go.Proofs.YtbfllifgmlkndaaGreatDoor

namespace Go.Proofs.YtbfllifgmlkndaaGreatDoor
open Go.RowKit
open Slot

theorem ba_size (s : Bs) : (⟨s.toArray⟩ : ByteArray).size = s.length := by simp [ByteArray.size]
theorem index_at (s : Bs) (k : Nat) (h : k < s.length) (W : World) : (Instr.index 9 (.string ⟨s.toArray⟩) (.int .i64 (k : Int))).run Tryz.prog W = .ok (.int .u8 (s[k].toNat : Int)) W := by
  have hz := ba_size s
  rw [run_index_string W 9 ⟨s.toArray⟩ .i64 (k : Int) Tryz.underlying9, dif_pos ⟨by omega, by omega⟩]
  rfl
theorem slice_at (s : Bs) (a b : Nat) (za zb : Int) (ha : za = a) (hb : zb = b) (hab : a ≤ b) (h : b ≤ s.length) (W : World) : (Instr.slice 9 (.string ⟨s.toArray⟩) (some (.int .i64 za)) (some (.int .i64 zb)) none).run Tryz.prog W = .ok (.string ⟨((s.drop a).take (b - a)).toArray⟩) W := by
  have hz := ba_size s
  have := run_slice_string (P := Tryz.prog) W 9 ⟨s.toArray⟩ .i64 .i64 za zb Tryz.underlying9 (by omega) (by omega) (by omega)
  rw [show za.toNat = a by omega, show zb.toNat = b by omega, ByteArray.extract_mk] at this
  exact this

end Go.Proofs.YtbfllifgmlkndaaGreatDoor

namespace Go.Proofs.YtbfllifgmlkndaaGreatDoor
open Go.RowKit
open Slot

theorem parseVal_set (s : Bs) : ∃ z : Int, parseVal s = .tuple #[.agg (cellsOf (setOf s)), .int .i64 z] ∧ (z = 0 ↔ parseAll s ≠ none) := by
  cases h : parseAll s with
  | none => exact ⟨20, by rw [parseVal_bad h]; unfold setOf; rw [h], by simp⟩
  | some l => exact ⟨0, by rw [parseVal_ok h]; unfold setOf; rw [h], by simp⟩
theorem range_box {w : World} {b : Nat} {S : Nat → Bool} (h : Box w b S) : w.rangeAt b 0 (cellsOf S).toList := fun j v hv => by
  rw [cell_of_row w b _ _ _ _ h, Nat.zero_add, ← Array.getElem?_toList]; exact hv
theorem yieldsIf_load_arr {P : Program} {ops : Array Oper} {S : World → Prop} {op : Oper} {a : Act} {CX : Array Value} (ht : CX.toList.toArray = CX) (hw : Region.wanted op (yielded ops a.tmps) = true) (ty : TypeId) (x : Operand) (ho : op.op = .load ty x)
    (b o : Nat) (hx : a.eval x = .pointer (some ⟨b, o, none⟩)) {d : TypeDesc} (hS : ∀ w, S w → w.rangeAt b o CX.toList) (hu : P.underlying ty = some d) (hd : d.isRow = true) (hi : (P.info? ty).map (·.size) = some CX.toList.length) : YieldsIf P ops S op (.agg CX) a := by
  have := yieldsIf_load_mid (P := P) (S := S) hw ty x ho b o hx CX.toList d hS hu hd hi
  rwa [ht] at this
set_option maxHeartbeats 4000000 in
set_option maxRecDepth 100000 in
theorem read_core (S : ByteArray) (x0 x1 x2 : Nat) (E C M : Bs) (w : World) (hE : Env w) (h23 : 23 ≤ S.size) (hM : M.length ≤ 281474976710656) (hEl : E.length ≤ 8) (hCl : C.length ≤ 8) (hS : S.size ≤ 281474976710656)
    (i0 : ∀ w, (Instr.index 9 (.string S) (.int .i64 0)).run Tryz.prog w = .ok (.int .u8 x0) w) (i1 : ∀ w, (Instr.index 9 (.string S) (.int .i64 1)).run Tryz.prog w = .ok (.int .u8 x1) w) (i2 : ∀ w, (Instr.index 9 (.string S) (.int .i64 2)).run Tryz.prog w = .ok (.int .u8 x2) w)
    (s0 : ∀ w, (Instr.slice 9 (.string S) (some (.int .i64 3)) (some (.int .i64 11)) none).run Tryz.prog w = .ok (.string ⟨E.toArray⟩) w) (s1 : ∀ w, (Instr.slice 9 (.string S) (some (.int .i64 11)) (some (.int .i64 19)) none).run Tryz.prog w = .ok (.string ⟨C.toArray⟩) w)
    (s2 : ∀ w, (Instr.slice 9 (.string S) (some (.int .i64 21)) (some (.int .i64 ((S.size : Int) - 2))) none).run Tryz.prog w = .ok (.string ⟨M.toArray⟩) w) (b0 : x0 < 256) (b1 : x1 < 256) (b2 : x2 < 256) :
    Calls Tryz.prog 67 #[.string S] w fun e w' => e = .returned (.agg (pkCells ⟨x0, x1, x2, nb E, nb C, setOf M⟩)) ∧ Below w.heap.size w w' := by
  have hz := zeroPk
  have hzb := zeroBits
  obtain ⟨z, hpv, -⟩ := parseVal_set M
  have HW0 := hid (below_alloc w (.cells (pkCells zeroP) 53))
  have HP0 := hid (pbox_new w zeroP)
  have HPar : Hid (∀ w, Env w → Calls Tryz.prog 82 #[.string ⟨M.toArray⟩] w fun e w' => e = .returned (.tuple #[.agg (cellsOf (setOf M)), .int .i64 z]) ∧ Below w.heap.size w w') := fun w h => by
    have := parse_any M w h hM
    rwa [hpv] at this
  have HNE := hid (numberOf_any E hEl)
  have HNC := hid (numberOf_any C hCl)
  have hbu := built_form x0 x1 x2 (nb E) (nb C) (setOf M)
  have HE := hid hE
  clear hE hpv
  generalize setOf M = X at *
  generalize nb E = ne at *
  generalize nb C = nc at *
  go_enter Tryz.func67, Tryz.ntmps67
  go_wp2_with fail
  refine (HPar.out _ (HE.out.below HW0.out HE.out.room)).mono ?_; rintro e w1 ⟨rfl, hb⟩
  have HP1 := hid (HP0.out.below hb HP0.out.lt)
  have HW1 := hid (HW0.out.trans (hb.mono HW0.out.size))
  have HZ1 : Hid (Box (w1.alloc (.cells (cellsOf fun _ => false) 24)) w1.heap.size (fun _ => false)) := box_new w1 _
  clear hb
  go_wp2_with (refine wpList_store_row rfl 24 _ _ rfl w1.heap.size (cellsOf X) rfl rfl 24 _ HZ1.out (infoBits _) (sizes _ _) (oneCells _) (Hid.out ?_))
  have B2 : Hid (Box ((w1.alloc (.cells (cellsOf fun _ => false) 24)).setRow w1.heap.size (cellsOf X)) w1.heap.size X) := box_size HZ1.out
  have W2 : Hid (Below w.heap.size w ((w1.alloc (.cells (cellsOf fun _ => false) 24)).setRow w1.heap.size (cellsOf X))) := below_setRow (HW1.out.alloc HW1.out.size _) HW1.out.size _
  have P2 : Hid (PBox ((w1.alloc (.cells (cellsOf fun _ => false) 24)).setRow w1.heap.size (cellsOf X)) w.heap.size zeroP) := (setRow_other _ _ _ _ (by have := HP1.out.lt; omega)).trans ((heap_alloc_old w1 _ HP1.out.lt).trans HP1.out)
  have hne : w.heap.size ≠ w1.heap.size := by have := HP1.out.lt; omega
  generalize (w1.alloc (.cells (cellsOf fun _ => false) 24)).setRow w1.heap.size (cellsOf X) = w2 at B2 W2 P2 ⊢
  generalize w1.heap.size = b at B2 hne ⊢
  refine hid ?_
  clear HPar HP0 HP1 HW0 HW1 HZ1 s2 hz hzb
  have hzs := zsize
  have hsx : (cellsOf X).size = 256 := cellsOf_size X
  have hbv := hbu
  rw [hsx] at hbv
  have HU := hid (Below.refl w2.heap.size w2)
  have hr := range_box B2.out
  have u24 := Tryz.underlying24
  have hi24 := infoCl X
  have hst := fun (w' : World) h => store_cells w.heap.size ⟨x0, x1, x2, ne, nc, X⟩ zeroP w' h
  have hsp := pkCells_size ⟨x0, x1, x2, ne, nc, X⟩
  have v0 : IntKind.i64.wrap (x0 : Int) = x0 := by rw [IntKind.wrap_i64]; omega
  have v1 : IntKind.i64.wrap (x1 : Int) = x1 := by rw [IntKind.wrap_i64]; omega
  have v2 : IntKind.i64.wrap (x2 : Int) = x2 := by rw [IntKind.wrap_i64]; omega
  have HF : Hid (∀ w', PBox w' w.heap.size zeroP → PBox (w'.setRow w.heap.size (pkCells ⟨x0, x1, x2, ne, nc, X⟩)) w.heap.size ⟨x0, x1, x2, ne, nc, X⟩) := fun w' h => pbox_set h
  have hp : w2.heap[w.heap.size]? = some (.cells (pkCells zeroP) 53 (0, 0)) := P2.out
  have HPr : Hid (∀ w', PBox w' w.heap.size zeroP → w'.heap[w.heap.size]? = some (.cells (pkCells zeroP) 53 (0, 0))) := fun w' h => h
  have HBr : Hid (∀ w', Box w' b X → w'.rangeAt b 0 (cellsOf X).toList) := fun w' h => range_box h
  have hinf := infoPk ⟨x0, x1, x2, ne, nc, X⟩
  have hzz := sizesPk zeroP ⟨x0, x1, x2, ne, nc, X⟩
  have hone := onePk ⟨x0, x1, x2, ne, nc, X⟩
  have HRet : Hid (∀ w', PBox w' w.heap.size ⟨x0, x1, x2, ne, nc, X⟩ → ∀ tmps : Array Value, tmps.getD 2 undef = .pointer (some ⟨w.heap.size, 0, none⟩) → (results Tryz.f67 tmps).run Tryz.prog w' = .ok (.agg (pkCells ⟨x0, x1, x2, ne, nc, X⟩)) w') := fun w' h tmps ht => ret_pk rfl ht h
  generalize hPC : pkCells ⟨x0, x1, x2, ne, nc, X⟩ = PC at *
  have HPC := hid hPC
  clear hPC
  generalize pkCells zeroP = Z0 at *
  generalize cellsOf X = CX at *
  have ht : CX.toList.toArray = CX := Array.toArray_toList
  have hrd : w2.drew.rangeAt b 0 CX.toList := hr
  go_wp2_with fail
  refine wp_region_noPanic ?_
  refine wp_region_held_drew (S := fun w' => w'.rangeAt b 0 CX.toList) (by kernel_rfl) hrd (fun hHeld => ?_)
  refine wpAnyH_take (i := 0) (oi := { dst := some 14, op := Op.move (Operand.tmp 0), type := 9, pos := "packet.go:79", after := #[], guard := none }) (v := .string S) rfl (by kernel_rfl) (by kernel_rfl) (by kernel_rfl) (fun _ _ _ h => h) (Or.inl ⟨by rfl, fun w hSw => ?_⟩) (by assumption) ?_
  · clear hHeld hSw
    go_simp
  try simp only [Act.put, List.setIfInBounds_toArray, List.set_cons_zero, List.set_cons_succ]
  refine wpAnyH_take (i := 1) (oi := { dst := some 15, op := Op.index 9 (Operand.tmp 14) (Operand.const (Value.int IntKind.i64 0)), type := 5, pos := "packet.go:79", after := #[{ on := 0, ground := Ground.data }], guard := none }) (v := .int .u8 x0) rfl (by kernel_rfl) (by kernel_rfl) (by kernel_rfl) (fun _ _ _ h => h) (Or.inl ⟨by rfl, fun w hSw => ?_⟩) (by assumption) ?_
  · clear hHeld hSw
    go_simp
  try simp only [Act.put, List.setIfInBounds_toArray, List.set_cons_zero, List.set_cons_succ]
  refine wpAnyH_take (i := 2) (oi := { dst := some 16, op := Op.convert 5 3 (Operand.tmp 15), type := 3, pos := "packet.go:79", after := #[{ on := 1, ground := Ground.data }], guard := none }) (v := .int .i64 x0) rfl (by kernel_rfl) (by kernel_rfl) (by kernel_rfl) (fun _ _ _ h => h) (Or.inl ⟨by rfl, fun w hSw => ?_⟩) (by assumption) ?_
  · clear hHeld hSw
    go_simp
  try simp only [Act.put, List.setIfInBounds_toArray, List.set_cons_zero, List.set_cons_succ]
  refine wpAnyH_take (i := 3) (oi := { dst := some 17, op := Op.move (Operand.tmp 0), type := 9, pos := "packet.go:79", after := #[], guard := none }) (v := .string S) rfl (by kernel_rfl) (by kernel_rfl) (by kernel_rfl) (fun _ _ _ h => h) (Or.inl ⟨by rfl, fun w hSw => ?_⟩) (by assumption) ?_
  · clear hHeld hSw
    go_simp
  try simp only [Act.put, List.setIfInBounds_toArray, List.set_cons_zero, List.set_cons_succ]
  refine wpAnyH_take (i := 4) (oi := { dst := some 18, op := Op.index 9 (Operand.tmp 17) (Operand.const (Value.int IntKind.i64 1)), type := 5, pos := "packet.go:79", after := #[{ on := 3, ground := Ground.data }], guard := none }) (v := .int .u8 x1) rfl (by kernel_rfl) (by kernel_rfl) (by kernel_rfl) (fun _ _ _ h => h) (Or.inl ⟨by rfl, fun w hSw => ?_⟩) (by assumption) ?_
  · clear hHeld hSw
    go_simp
  try simp only [Act.put, List.setIfInBounds_toArray, List.set_cons_zero, List.set_cons_succ]
  refine wpAnyH_take (i := 5) (oi := { dst := some 19, op := Op.convert 5 3 (Operand.tmp 18), type := 3, pos := "packet.go:79", after := #[{ on := 4, ground := Ground.data }], guard := none }) (v := .int .i64 x1) rfl (by kernel_rfl) (by kernel_rfl) (by kernel_rfl) (fun _ _ _ h => h) (Or.inl ⟨by rfl, fun w hSw => ?_⟩) (by assumption) ?_
  · clear hHeld hSw
    go_simp
  try simp only [Act.put, List.setIfInBounds_toArray, List.set_cons_zero, List.set_cons_succ]
  refine wpAnyH_take (i := 6) (oi := { dst := some 20, op := Op.move (Operand.tmp 0), type := 9, pos := "packet.go:79", after := #[], guard := none }) (v := .string S) rfl (by kernel_rfl) (by kernel_rfl) (by kernel_rfl) (fun _ _ _ h => h) (Or.inl ⟨by rfl, fun w hSw => ?_⟩) (by assumption) ?_
  · clear hHeld hSw
    go_simp
  try simp only [Act.put, List.setIfInBounds_toArray, List.set_cons_zero, List.set_cons_succ]
  refine wpAnyH_take (i := 7) (oi := { dst := some 21, op := Op.index 9 (Operand.tmp 20) (Operand.const (Value.int IntKind.i64 2)), type := 5, pos := "packet.go:79", after := #[{ on := 6, ground := Ground.data }], guard := none }) (v := .int .u8 x2) rfl (by kernel_rfl) (by kernel_rfl) (by kernel_rfl) (fun _ _ _ h => h) (Or.inl ⟨by rfl, fun w hSw => ?_⟩) (by assumption) ?_
  · clear hHeld hSw
    go_simp
  try simp only [Act.put, List.setIfInBounds_toArray, List.set_cons_zero, List.set_cons_succ]
  refine wpAnyH_take (i := 8) (oi := { dst := some 22, op := Op.convert 5 3 (Operand.tmp 21), type := 3, pos := "packet.go:79", after := #[{ on := 7, ground := Ground.data }], guard := none }) (v := .int .i64 x2) rfl (by kernel_rfl) (by kernel_rfl) (by kernel_rfl) (fun _ _ _ h => h) (Or.inl ⟨by rfl, fun w hSw => ?_⟩) (by assumption) ?_
  · clear hHeld hSw
    go_simp
  try simp only [Act.put, List.setIfInBounds_toArray, List.set_cons_zero, List.set_cons_succ]
  refine wpAnyH_take (i := 9) (oi := { dst := some 23, op := Op.move (Operand.tmp 0), type := 9, pos := "packet.go:79", after := #[], guard := none }) (v := .string S) rfl (by kernel_rfl) (by kernel_rfl) (by kernel_rfl) (fun _ _ _ h => h) (Or.inl ⟨by rfl, fun w hSw => ?_⟩) (by assumption) ?_
  · clear hHeld hSw
    go_simp
  try simp only [Act.put, List.setIfInBounds_toArray, List.set_cons_zero, List.set_cons_succ]
  refine wpAnyH_take (i := 10) (oi := { dst := some 24, op := Op.slice 9 (Operand.tmp 23) (some (Operand.const (Value.int IntKind.i64 3))) (some (Operand.const (Value.int IntKind.i64 11))) none, type := 9, pos := "packet.go:79", after := #[{ on := 9, ground := Ground.data }], guard := none }) (v := .string ⟨E.toArray⟩) rfl (by kernel_rfl) (by kernel_rfl) (by kernel_rfl) (fun _ _ _ h => h) (Or.inl ⟨by rfl, fun w hSw => ?_⟩) (by assumption) ?_
  · clear hHeld hSw
    go_simp
  try simp only [Act.put, List.setIfInBounds_toArray, List.set_cons_zero, List.set_cons_succ]
  refine wpAnyH_take (i := 12) (oi := { dst := some 26, op := Op.move (Operand.tmp 0), type := 9, pos := "packet.go:79", after := #[], guard := none }) (v := .string S) rfl (by kernel_rfl) (by kernel_rfl) (by kernel_rfl) (fun _ _ _ h => h) (Or.inl ⟨by rfl, fun w hSw => ?_⟩) (by assumption) ?_
  · clear hHeld hSw
    go_simp
  try simp only [Act.put, List.setIfInBounds_toArray, List.set_cons_zero, List.set_cons_succ]
  refine wpAnyH_take (i := 13) (oi := { dst := some 27, op := Op.slice 9 (Operand.tmp 26) (some (Operand.const (Value.int IntKind.i64 11))) (some (Operand.const (Value.int IntKind.i64 19))) none, type := 9, pos := "packet.go:79", after := #[{ on := 12, ground := Ground.data }], guard := none }) (v := .string ⟨C.toArray⟩) rfl (by kernel_rfl) (by kernel_rfl) (by kernel_rfl) (fun _ _ _ h => h) (Or.inl ⟨by rfl, fun w hSw => ?_⟩) (by assumption) ?_
  · clear hHeld hSw
    go_simp
  try simp only [Act.put, List.setIfInBounds_toArray, List.set_cons_zero, List.set_cons_succ]
  refine wpAnyH_take (i := 15) (oi := { dst := some 29, op := Op.load 24 (Operand.tmp 3), type := 24, pos := "packet.go:79", after := #[], guard := none }) (v := .agg CX) rfl (by kernel_rfl) (by kernel_rfl) (by kernel_rfl) (fun _ _ _ h => h) (yieldsIf_load_arr Array.toArray_toList (by rfl) _ _ rfl _ _ rfl (fun _ h => h) u24 rfl hi24) (by assumption) ?_
  try simp only [Act.put, List.setIfInBounds_toArray, List.set_cons_zero, List.set_cons_succ]
  refine wpAnyH_ready (rs := [11]) (by kernel_rfl) (by simp) ?_
  refine AllReadyH.cons (o := { dst := some 25, op := Op.call { callee := Callee.value (Operand.func 83), args := #[Operand.tmp 24], argTypes := #[9] }, type := 22, pos := "packet.go:83", after := #[{ on := 10, ground := Ground.data }], guard := none }) rfl (fun K hK => ?_) AllReadyH.nil
  clear hHeld
  go_simp
  refine (HNE.out _).mono ?_; rintro e w3 ⟨rfl, hb⟩
  replace HU := hid (HU.out.drew.trans (hb.mono HU.out.size))
  replace hr := HBr.out _ (B2.out.below HU.out B2.out.lt)
  replace hp := HPr.out _ (P2.out.below HU.out P2.out.lt)
  clear hb
  go_wp2_with fail
  refine hK.out _ _ hr (fun hHeld => ?_)
  clear hK K
  try simp only [Act.put, List.setIfInBounds_toArray, List.set_cons_zero, List.set_cons_succ]
  refine wpAnyH_ready (rs := [14]) (by kernel_rfl) (by simp) ?_
  refine AllReadyH.cons (o := { dst := some 28, op := Op.call { callee := Callee.value (Operand.func 83), args := #[Operand.tmp 27], argTypes := #[9] }, type := 22, pos := "packet.go:84", after := #[{ on := 13, ground := Ground.data }, { on := 11, ground := Ground.chain }], guard := none }) rfl (fun K hK => ?_) AllReadyH.nil
  clear hHeld
  go_simp
  refine (HNC.out _).mono ?_; rintro e w4 ⟨rfl, hb⟩
  replace HU := hid (HU.out.trans (hb.mono HU.out.size))
  replace hr := HBr.out _ (B2.out.below HU.out B2.out.lt)
  replace hp := HPr.out _ (P2.out.below HU.out P2.out.lt)
  clear hb
  go_wp2_with fail
  refine hK.out _ _ hr (fun hHeld => ?_)
  clear hK K
  try simp only [Act.put, List.setIfInBounds_toArray, List.set_cons_zero, List.set_cons_succ]
  refine wpAnyH_take (i := 16) (oi := { dst := some 30, op := Op.build 53 #[(0, Operand.tmp 16), (1, Operand.tmp 19), (2, Operand.tmp 22), (3, Operand.tmp 25), (4, Operand.tmp 28), (5, Operand.tmp 29)], type := 53, pos := "packet.go:79", after := #[{ on := 2, ground := Ground.data }, { on := 5, ground := Ground.data }, { on := 8, ground := Ground.data }, { on := 11, ground := Ground.data }, { on := 14, ground := Ground.data }, { on := 15, ground := Ground.data }], guard := none }) (v := .agg PC) rfl (by kernel_rfl) (by kernel_rfl) (by kernel_rfl) (fun _ _ _ h => h) (Or.inl ⟨by rfl, fun w hSw => ?_⟩) (by assumption) ?_
  · clear hHeld hSw
    go_simp
  try simp only [Act.put, List.setIfInBounds_toArray, List.set_cons_zero, List.set_cons_succ]
  refine wpAnyH_ready (rs := [17]) (by kernel_rfl) (by simp) ?_
  refine AllReadyH.cons (o := { dst := none, op := Op.store 53 (Operand.tmp 2) (Operand.tmp 30), type := 0, pos := "packet.go:79", after := #[{ on := 16, ground := Ground.data }, { on := 14, ground := Ground.chain }, { on := 0, ground := Ground.phase }, { on := 1, ground := Ground.phase }, { on := 2, ground := Ground.phase }, { on := 3, ground := Ground.phase }, { on := 4, ground := Ground.phase }, { on := 5, ground := Ground.phase }, { on := 6, ground := Ground.phase }, { on := 7, ground := Ground.phase }, { on := 8, ground := Ground.phase }, { on := 9, ground := Ground.phase }, { on := 10, ground := Ground.phase }, { on := 11, ground := Ground.phase }, { on := 12, ground := Ground.phase }, { on := 13, ground := Ground.phase }, { on := 14, ground := Ground.phase }, { on := 15, ground := Ground.phase }, { on := 16, ground := Ground.phase }], guard := none }) rfl (fun K hK => ?_) AllReadyH.nil
  rw [if_pos (by rfl)]
  refine wp_store_row 53 _ _ rfl w.heap.size PC rfl rfl 53 Z0 hp hinf hzz hone ?_
  refine hK.out _ _ (range_setRow hr hne _) (fun hHeld => ?_)
  clear hK K hHeld
  refine wpAnyH_done (by kernel_rfl) ?_ _
  refine NoPanic.normal ?_
  go_wp2_with fail
  have HB5 := hid (HF.out _ (P2.out.below HU.out P2.out.lt))
  refine bodyPost_ret (v := .agg PC) ?_ rfl ?_
  · exact HRet.out _ HB5.out _ rfl
  · exact ⟨congrArg (fun c => Ending.returned (.agg c)) HPC.out.symm, below_setRow (W2.out.trans (HU.out.mono W2.out.size)) (Nat.le_refl _) _⟩
/-- read -/
theorem read_any (s : Bs) (w : World) (hE : Env w) (h0 : 23 ≤ s.length) (hs : s.length ≤ 281474976710656) : Calls Tryz.prog 67 #[.string ⟨s.toArray⟩] w fun e w' => e = .returned (.agg (pkCells (rdP s))) ∧ Below w.heap.size w w' := by
  have hz := ba_size s
  have g : ∀ k, k < s.length → ((s.getD k 0).toNat : Nat) = if h : k < s.length then s[k].toNat else 0 := fun k hk => by rw [dif_pos hk]; simp [List.getD, hk]
  have i : ∀ (k : Nat) (h : k < s.length) (W : World), (Instr.index 9 (.string ⟨s.toArray⟩) (.int .i64 (k : Int))).run Tryz.prog W = .ok (.int .u8 ((s.getD k 0).toNat : Int)) W := fun k h W => by
    rw [index_at s k h W, g k h, dif_pos h]
  exact read_core ⟨s.toArray⟩ (s.getD 0 0).toNat (s.getD 1 0).toNat (s.getD 2 0).toNat ((s.drop 3).take 8) ((s.drop 11).take 8) ((s.drop 21).take (s.length - 23)) w hE (by omega) (by rw [List.length_take]; omega) (by rw [List.length_take]; omega) (by rw [List.length_take]; omega) (by omega)
    (fun W => i 0 (by omega) W) (fun W => i 1 (by omega) W) (fun W => i 2 (by omega) W)
    (fun W => slice_at s 3 11 3 11 rfl rfl (by omega) (by omega) W) (fun W => slice_at s 11 19 11 19 rfl rfl (by omega) (by omega) W)
    (fun W => by
      have := slice_at s 21 (s.length - 2) 21 ((s.length : Int) - 2) rfl (by omega) (by omega) (by omega) W
      rw [show s.length - 2 - 21 = s.length - 23 by omega] at this
      rw [hz]
      exact this) (UInt8.toNat_lt _) (UInt8.toNat_lt _) (UInt8.toNat_lt _)

end Go.Proofs.YtbfllifgmlkndaaGreatDoor
