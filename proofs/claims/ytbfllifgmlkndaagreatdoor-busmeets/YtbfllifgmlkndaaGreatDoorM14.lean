/- Print. -/
import Derived.Lib.ItoaLen
import Derived.Laws.IdiomStrings
import Derived.Test.YtbfllifgmlkndaaGreatDoorM13
namespace Go.Proofs.YtbfllifgmlkndaaGreatDoor
open Go.RowKit
open Slot

theorem info5 : (Tryz.prog.info? 5).map (fun i => (i.zero, i.size, i.bytes)) = some (some (.int .u8 0), 1, 1) := by kernel_rfl
/-- a text under way, in a row of the call's own, beside a range in its box -/
structure Writ (B : Nat) (w1 : World) (R f t : Nat) (W : World) (v : Value) (T : List UInt8) : Prop where
  own : W.ownsRow B 5 1 v T.length (Lib.byteCells T)
  box : W.heap[R]? = some (.cells #[.int .i64 f, .int .i64 t] 116 (0, 0))
  bel : Below B w1 W
  size : B ≤ W.heap.size
theorem Writ.cells {B : Nat} {w1 : World} {R f t : Nat} {W : World} {v : Value} {T : List UInt8} (h : Writ B w1 R f t W v T) : W.cell? ⟨R, 0, none⟩ = some (.int .i64 f) ∧ W.cell? ⟨R, 1, none⟩ = some (.int .i64 t) :=
  ⟨cell_of_row W R 0 _ _ _ h.box, cell_of_row W R 1 _ _ _ h.box⟩
/-- one byte more -/
theorem Writ.push {B : Nat} {w1 : World} {R f t : Nat} {W : World} {v : Value} {T : List UInt8} (h : Writ B w1 R f t W v T) (c : UInt8) (z : Int) (hz : (c.toNat : Int) = z) (hT : T.length ≤ 300000) :
    ∃ v' W', (Builtin.append_ #[126, 126] 126 #[v, .slice (some ⟨W.heap.size, 0, none⟩) 1 1]).run Tryz.prog (W.alloc (.cells #[.int .u8 z] 5)) = .ok v' W' ∧ Writ B w1 R f t W' v' (T ++ [c]) := by
  subst hz
  obtain ⟨i0, hi, hz0, hz1, hz2⟩ := info_parts info5
  have hs := h.size
  have hRl : R < W.heap.size := (Array.getElem?_eq_some_iff.1 h.box).1
  have hown' := owns_below h.own (below_alloc W (.cells #[.int .u8 (c.toNat : Int)] 5))
  obtain ⟨v', w', hrun, ho, hgr, _⟩ := run_append_own (P := Tryz.prog) (W.alloc (.cells #[.int .u8 (c.toNat : Int)] 5)) B 126 126 5 i0 (.int .u8 0) 1 1 Tryz.underlying126 hi hz0 hz1 hz2 rfl (by decide) _ _ _ hown' ⟨W.heap.size, 0, none⟩ 1 1 [.int .u8 (c.toNat : Int)] rfl
    (fun j u hj => by
      rw [Go.WideShapes.add_plain, cell_of_row _ _ _ _ _ _ (heap_alloc_new W _)]
      simpa using hj)
    (fun u hu => by rw [List.mem_singleton.1 hu]; rfl) (by unfold maxLen; omega) (by omega) (by simp; omega)
  refine ⟨v', w', hrun, ?_, ?_, ?_, ?_⟩
  · rw [Lib.byteCells_append, List.length_append]
    exact ho
  · rw [hgr.block R (by simp; omega) ?_, heap_alloc_old W _ hRl]
    · exact h.box
    · intro e
      rcases h.own.2 with ⟨rfl, _⟩ | ⟨g, cap, cur, rfl, _, hg, _⟩
      · cases e
      · injection e with e
        simp only at e
        rw [← e, h.box] at hg
        injection hg with hg
        injection hg with _ hg
        exact absurd hg (by decide)
  · exact (h.bel.alloc hs _).grown hgr (by simp; omega) (fun k hk => (World.ownsRow.lt h.own k hk).1)
  · have := hgr.size; simp at this; omega
/-- a number more -/
theorem Writ.int {B : Nat} {w1 : World} {R f t : Nat} {W : World} {v : Value} {T : List UInt8} (h : Writ B w1 R f t W v T) (hE : Env w1) (hB : 7 ≤ B) (n : Nat) (hn : n < 16384) (hT : T.length ≤ 300000) :
    Calls Tryz.prog 99 #[v, .int .i64 n, .int .i64 10] W fun e W' => ∃ v', e = .returned v' ∧ Writ B w1 R f t W' v' (T ++ dec n) := by
  refine (Tryz.strconv_AppendInt_10 B T.length n (by omega) (by omega) v (Lib.byteCells T) W h.own h.size (by omega) (fun w' hb => ((hE.below h.bel hB).below hb hB).pow)).mono ?_
  rintro e W' ⟨v', rfl, ho, hb, hk⟩
  rw [Lib.itoa_nonneg] at ho
  refine ⟨v', rfl, ?_, hk R _ h.box (by simp) (fun c fz e => by injection e with _ e; exact absurd e (by decide)), h.bel.trans hb, Nat.le_trans h.size hb.size⟩
  rw [Lib.byteCells_append, List.length_append]
  exact ho
theorem owns_string {B : Nat} {W : World} {v : Value} {T : List UInt8} (h : W.ownsRow B 5 1 v T.length (Lib.byteCells T)) : (convert 126 9 v).run Tryz.prog W = .ok (.string ⟨T.toArray⟩) W := by
  rcases h.2 with ⟨rfl, h0⟩ | ⟨g, cap, cur, rfl, _⟩
  · rw [List.length_eq_zero_iff.1 h0]
    exact run_convert_bytes_nil W 126 5 Tryz.underlying126 Tryz.underlying5 0 0 9 Tryz.underlying9
  · exact run_convert_bytes_back (P := Tryz.prog) W 126 9 5 ⟨g, 0, none⟩ cap T Tryz.underlying126 Tryz.underlying5 Tryz.underlying9 (fun j hj => World.ownsRow.cells h (g := g) rfl j _ (by simp [Lib.byteCells, hj]))
theorem dec_len (n : Nat) (h : n < 100000) : (dec n).length ≤ 5 := by
  have : ∀ k m, m < 10 ^ (k + 1) → (dec m).length ≤ k + 1 := fun k => by
    induction k with
    | zero => intro m hm; unfold dec; rw [Lib.decDigits, dif_pos (by omega)]; simp
    | succ k ih =>
      intro m hm
      unfold dec
      rw [Lib.decDigits]
      split
      · simp
      · have := ih (m / 10) (by rw [Nat.pow_succ] at hm; omega)
        rw [List.length_append]
        simp only [List.length_singleton]
        exact Nat.succ_le_succ this
  exact this 4 n h
theorem piece_len (p : Nat × Nat) (h : p.1 ≤ p.2 ∧ p.2 < top) : (piece p).length ≤ 11 := by
  unfold top at h
  have h1 := dec_len p.1 (by omega)
  have h2 := dec_len p.2 (by omega)
  unfold piece
  split <;> simp <;> omega
theorem print_len : ∀ l : List (Nat × Nat), (∀ p ∈ l, p.1 ≤ p.2 ∧ p.2 < top) → (print l).length ≤ 12 * l.length
  | [], _ => Nat.le_refl _
  | [p], h => by have := piece_len p (h p (by simp)); simp [print]; omega
  | p :: q :: l, h => by
    have h1 := piece_len p (h p (by simp))
    have h2 := print_len (q :: l) (fun r hr => h r (List.mem_cons_of_mem _ hr))
    simp only [print, List.length_append, List.length_cons] at h2 ⊢
    omega

theorem print_take {l : List (Nat × Nat)} {k : Nat} (h : k < l.length) : print (l.take (k + 1)) = print (l.take k) ++ (if k = 0 then [] else [32]) ++ piece l[k] := by
  rw [List.take_succ_eq_append_getElem h, print_snoc]
  by_cases e : k = 0
  · subst e; simp
  · have : l.take k ≠ [] := fun c => by
      have := congrArg List.length c
      simp at this
      rcases this with h1 | h1
      · exact e h1
      · rw [h1] at h; simp at h
    rw [if_neg this, if_neg e]

set_option maxHeartbeats 2000000 in
set_option maxRecDepth 100000 in
/-- Print -/
theorem print_any (S : Nat → Bool) (w : World) (hE : Env w) :
    Calls Tryz.prog 84 #[.agg (cellsOf S)] w fun e w' => (∃ l, Runs S 0 l ∧ e = .returned (.string ⟨(print l).toArray⟩)) ∧ Below w.heap.size w w' := by
  have HB0 := hid (box_new w S)
  have HRg := hid (fun W => ranges_any S W)
  have HE := hid hE
  clear hE
  go_enter Tryz.func84, Tryz.ntmps84
  go_wp2_with (refine wpList_load_row rfl 24 _ rfl w.heap.size rfl 24 _ (0, 0) _ HB0.out Tryz.underlying24 rfl (infoBits _) (Hid.out ?_))
  refine hid ?_
  go_wp2_with fail
  refine (HRg.out _).mono ?_
  rintro e w1 ⟨⟨l, v, rfl, hruns, hown⟩, hb1⟩
  have hlen : l.length ≤ 16384 := by have := hruns.length (by unfold top; omega); unfold top at this; omega
  have hval := hruns.valid
  obtain ⟨a, cap, rfl, hrow⟩ := owns_rowR hown (by omega)
  have HRuns := hid hruns
  have HVal := hid hval
  have HRow := hid hrow
  have HW1 := hid ((below_alloc w (.cells (cellsOf S) 24)).trans (hb1.mono (by simp)))
  have HE1 := hid (HE.out.below HW1.out HE.out.room)
  clear hruns hval hrow hown hb1
  by_cases hne : l = []
  · subst hne
    go_wp2
    refine wp_loop_rounds 1 ?_
    rw [rounds_succ]
    have hcv := owns_string (B := w1.heap.size) (W := w1) (v := .slice none 0 0) (T := []) (World.ownsRow_nil w1 w1.heap.size 5 1)
    go_wp2
    go_ret
    exact ⟨⟨[], HRuns.out, rfl⟩, HW1.out⟩
  · obtain ⟨b, off, rfl, hc⟩ := HRow.out.2 (by simpa using hne)
    have HC := hid hc
    have hblt : b < w1.heap.size := block_lt_of_cell (hc 0 (by simpa using List.length_pos_iff.2 hne)).1
    clear hc hne HRow HRg HB0
    have hw1 : 7 ≤ w1.heap.size := HE1.out.room
    go_wp2
    go_loopw [3, 9] (fun v i W => ∃ k : Nat, k ≤ l.length ∧ i = .int .i64 k ∧ Hid (W.ownsRow w1.heap.size 5 1 v (print (l.take k)).length (Lib.byteCells (print (l.take k)))) ∧ Hid (Below w1.heap.size w1 W) ∧ w1.heap.size ≤ W.heap.size) (fun _ i _ => l.length - (intOf i).toNat)
    case atStart => exact ⟨0, Nat.zero_le _, rfl, World.ownsRow_nil _ _ _ _, Below.refl _ _, Nat.le_refl _⟩
    case round =>
      obtain ⟨k, hk, rfl, HO, HW, hsz⟩ := hrel
      by_cases hlk : k < l.length
      · obtain ⟨c0, c1⟩ := HC.out k (by simpa using hlk)
        simp only [List.getElem_map, intR] at c0 c1
        obtain ⟨hv1, hv2⟩ := HVal.out l[k] (List.getElem_mem hlk)
        unfold top at hv2
        have HT := hid (print_take hlk)
        have hlT : (print (l.take k)).length ≤ 200000 := by
          have := print_len (l.take k) (fun p hp => HVal.out p (List.mem_of_mem_take hp))
          simp at this; omega
        generalize print (l.take k) = T at HT hlT HO
        generalize hp : l[k] = p at c0 c1 hv1 hv2 HT
        obtain ⟨f, t⟩ := p
        simp only at c0 c1 hv1 hv2
        have hd0 : wr.cell? ⟨b, off + k * 2, none⟩ = some (.int .i64 f) := by rw [HW.out.cell (p := ⟨b, off + k * 2, none⟩) hblt]; exact c0
        have hd1 : wr.cell? ⟨b, off + k * 2 + 1, none⟩ = some (.int .i64 t) := by rw [HW.out.cell (p := ⟨b, off + k * 2 + 1, none⟩) hblt]; exact c1
        have h0 : Writ w1.heap.size w1 wr.heap.size f t (wr.alloc (.cells #[.int .i64 f, .int .i64 t] 116)) u3 T := ⟨owns_below HO.out (below_alloc wr _), heap_alloc_new wr _, HW.out.alloc hsz _, by simp; omega⟩
        have fin : Hid (∀ W v, Writ w1.heap.size w1 wr.heap.size f t W v (print (l.take (k + 1))) → W.ownsRow w1.heap.size 5 1 v (print (l.take (k + 1))).length (Lib.byteCells (print (l.take (k + 1)))) ∧ Below w1.heap.size w1 W ∧ w1.heap.size ≤ W.heap.size) := fun W v h => ⟨h.own, h.bel, h.size⟩
        have fl := dec_len f (by omega)
        have tl := dec_len t (by omega)
        clear c0 c1 hp
        by_cases hk0 : 0 < k
        · have hkn : ¬ k = 0 := by omega
          obtain ⟨v9, w9, hr9, h9⟩ := h0.push 32 32 (by decide) (by omega)
          simp only [World.size_alloc] at hr9
          have HR9 := hid hr9
          have HI := hid (h9.int HE1.out hw1 f (by omega) (by simp; omega))
          obtain ⟨e8, e9⟩ := h9.cells
          clear hr9 h9 h0
          rw [if_neg hkn] at HT
          clear hkn
          by_cases hlt : f < t
          · go_wp2_with (at_builtin; refine wpList_append_run rfl _ _ 126 rfl _ _ _ _ rfl rfl HR9.out (Hid.out ?_))
            refine hid ?_
            go_wp2_with fail
            refine HI.out.mono ?_; rintro e w2 ⟨v2, rfl, h2⟩
            obtain ⟨e0, e1⟩ := h2.cells
            obtain ⟨v3, w3, hr3, h3⟩ := h2.push 45 45 (by decide) (by simp; omega)
            have HR3 := hid hr3
            have HI3 := hid (h3.int HE1.out hw1 t (by omega) (by simp; omega))
            obtain ⟨e2, e3⟩ := h3.cells
            clear hr3 h3 h2
            go_wp2_with (at_builtin; refine wpList_append_run rfl _ _ 126 rfl _ _ _ _ rfl rfl HR3.out (Hid.out ?_))
            refine hid ?_
            go_wp2_with fail
            refine HI3.out.mono ?_; rintro e w4 ⟨v4, rfl, h4⟩
            have HF := hid (fin.out w4 v4 (by rw [HT.out]; simpa [piece, hlt] using h4))
            clear h4
            go_wp2
            go_roundw
            case rel => exact ⟨k + 1, by omega, by go_num, HF.out.1, HF.out.2.1, HF.out.2.2⟩
            case measure => simp [intOf]; omega
          · go_wp2_with (at_builtin; refine wpList_append_run rfl _ _ 126 rfl _ _ _ _ rfl rfl HR9.out (Hid.out ?_))
            refine hid ?_
            go_wp2_with fail
            refine HI.out.mono ?_; rintro e w2 ⟨v2, rfl, h2⟩
            obtain ⟨e0, e1⟩ := h2.cells
            have HF := hid (fin.out w2 v2 (by rw [HT.out]; simpa [piece, hlt] using h2))
            clear h2
            go_wp2
            go_roundw
            case rel => exact ⟨k + 1, by omega, by go_num, HF.out.1, HF.out.2.1, HF.out.2.2⟩
            case measure => simp [intOf]; omega
        · have hkn : k = 0 := by omega
          have HI := hid (h0.int HE1.out hw1 f (by omega) (by omega))
          rw [if_pos hkn] at HT
          clear h0 hkn
          by_cases hlt : f < t
          · go_wp2_with fail
            refine HI.out.mono ?_; rintro e w2 ⟨v2, rfl, h2⟩
            obtain ⟨e0, e1⟩ := h2.cells
            obtain ⟨v3, w3, hr3, h3⟩ := h2.push 45 45 (by decide) (by simp; omega)
            have HR3 := hid hr3
            have HI3 := hid (h3.int HE1.out hw1 t (by omega) (by simp; omega))
            obtain ⟨e2, e3⟩ := h3.cells
            clear hr3 h3 h2
            go_wp2_with (at_builtin; refine wpList_append_run rfl _ _ 126 rfl _ _ _ _ rfl rfl HR3.out (Hid.out ?_))
            refine hid ?_
            go_wp2_with fail
            refine HI3.out.mono ?_; rintro e w4 ⟨v4, rfl, h4⟩
            have HF := hid (fin.out w4 v4 (by rw [HT.out]; simpa [piece, hlt] using h4))
            clear h4
            go_wp2
            go_roundw
            case rel => exact ⟨k + 1, by omega, by go_num, HF.out.1, HF.out.2.1, HF.out.2.2⟩
            case measure => simp [intOf]; omega
          · go_wp2_with fail
            refine HI.out.mono ?_; rintro e w2 ⟨v2, rfl, h2⟩
            obtain ⟨e0, e1⟩ := h2.cells
            have HF := hid (fin.out w2 v2 (by rw [HT.out]; simpa [piece, hlt] using h2))
            clear h2
            go_wp2
            go_roundw
            case rel => exact ⟨k + 1, by omega, by go_num, HF.out.1, HF.out.2.1, HF.out.2.2⟩
            case measure => simp [intOf]; omega
      · have e : l.take k = l := List.take_of_length_le (by omega)
        rw [e] at HO
        have hcv := owns_string HO.out
        go_wp2
        go_ret
        exact ⟨⟨l, HRuns.out, rfl⟩, HW1.out.trans (HW.out.mono HW1.out.size)⟩

end Go.Proofs.YtbfllifgmlkndaaGreatDoor
