/- The walk of the law LinksAll. -/
import Derived.Test.YtjcfbnhmljlkpaaLkAlive
namespace Go.Proofs.Ytjcfbnhmljlkpaa
open Go.RowKit

/-- links and the document's row, on their way -/
structure Go2 (LB : World → Nat → (Nat → Prop) → (Nat → Prop) → List Wy → Prop) (N0 : Nat) (w W : World) (b : Nat) (F Rr : Nat → Prop) (q : Option Addr) (c : Nat) (R : List Wm) : Prop where
  lb : LB W b F Rr (ways R)
  row : Rdw (fun k => ¬ F k) (fun k => k < N0) W q R
  nil : q = none → c = 0
  low : ∀ k, F k ∨ Rr k → N0 ≤ k
  few : ∀ mm ∈ R, FewL mm.y.x
  bel : Below N0 w W
theorem Go2.below {LB : World → Nat → (Nat → Prop) → (Nat → Prop) → List Wy → Prop} (C : LinksIs LB) {N0 : Nat} {w W W' : World} {b : Nat} {F Rr : Nat → Prop} {q : Option Addr} {c : Nat} {R : List Wm} (h : Go2 LB N0 w W b F Rr q c R) (hb : Below W.heap.size W W') (hN : N0 ≤ W.heap.size) : Go2 LB N0 w W' b F Rr q c R :=
  ⟨C.keep h.lb (fun k hk => hb.block k (C.lt h.lb k hk)) hb.size, h.row.below hb, h.nil, h.low, h.few, h.bel.trans (hb.mono hN)⟩
/-- a call's letter -/
theorem op_low {w W : World} {p : Option Addr} {l : List Om} (h : GivenO w p l) (hb : Below w.heap.size w W) (i : Nat) (hi : i < l.length) : LtR (fun k => k < w.heap.size) W l[i].o.x l[i].ap l[i].rp :=
  (h.lies l[i] (List.getElem_mem hi)).turn (fun k _ hlt => ⟨hlt, hb.block k hlt⟩)
abbrev zeroO : Array Value := #[.int .i64 0, .int .i64 0, .int .i64 0, .int .i64 0, .int .i64 0, .int .i64 0, .int .i64 0, .string ⟨#[]⟩, .string ⟨#[]⟩, .slice none 0 0, .int .i64 0, .int .i64 0, .string ⟨#[]⟩, .slice none 0 0, .bool false, .int .i64 0]
theorem infoOp (c : Array Value) (h : c.size = 16) : (Try.prog.info? 35).map (·.size) = some c.size := by
  rw [h]; kernel_rfl
theorem op_one (m : Om) : m.cells.all (·.oneCell') = true := by simp [Om.cells, txt, Value.oneCell']
theorem op_range2 {W : World} {b k : Nat} {m : Om} (h : ∀ j, j < 16 → W.cell? ⟨b, k + j, none⟩ = m.cells[j]?) : W.rangeAt b k m.cells.toList := fun j v hv => by
  have hj : j < 16 := by
    have := (List.getElem?_eq_some_iff.1 hv).1
    simpa [Om.cells] using this
  rw [h j hj, ← Array.getElem?_toList]; exact hv
/-- does, on its way -/
theorem Go2.does {LB : World → Nat → (Nat → Prop) → (Nat → Prop) → List Wy → Prop} (C : LinksIs LB) {N0 : Nat} {w W : World} {b : Nat} {F Rr : Nat → Prop} {q : Option Addr} {c : Nat} {R : List Wm} (h : Go2 LB N0 w W b F Rr q c R) (hN : N0 ≤ W.heap.size) (m : Om) (hx : LtR (fun k => k < N0) W m.o.x m.ap m.rp) (hf : FewL m.o.x ∧ IE m.o.frm m.o.dst) (hl : R.length ≤ 50000) :
    Calls Try.prog 11 #[ptr b, .slice q R.length c, .agg m.cells] W fun e W' => ∃ q' c' N' R' F' R'', e = .returned (.tuple #[.slice q' N' c', .bool true]) ∧ Hid (R'.length = N' ∧ Go2 LB N0 w W' b F' R'' q' c' R' ∧ R'.length ≤ R.length + 1 ∧ ways R' = opV (ways R) m.o ∧ Kp F F' Rr R'' W W') := by
  refine (does_any C b F Rr (fun k => ¬ F k) (fun k => k < N0) q R c m W h.lb h.row h.nil (fun k hk => hk) (fun k hk hf => by have := h.low k (.inl hf); omega) hx hf hl h.few).mono ?_
  rintro e W' ⟨q', R', c', F', R'', rfl, hh⟩
  obtain ⟨h1, h2, h3, h4, h5, h6, h7⟩ := hh.out
  have hN' : ∀ k, F k → N0 ≤ k := fun k hk => h.low k (.inl hk)
  exact ⟨q', c', _, R', F', R'', rfl, rfl, ⟨h1, h2.turn (Nat.le_refl _) (fun k hk _ => ⟨hk.1, rfl⟩) (fun k hk _ => ⟨hk, rfl⟩), h3, fun k hk => by
    rcases hk with hk | hk
    · exact (h4.foot k hk).elim (fun e => h.low k (.inl e)) (fun e => by omega)
    · exact (h4.rows k hk).elim (fun e => h.low k (.inr e)) (fun e => by omega), h7, h.bel.trans (h4.below hN' hN)⟩, h5, h6, h4⟩
theorem Go2.stands {LB : World → Nat → (Nat → Prop) → (Nat → Prop) → List Wy → Prop} (C : LinksIs LB) {N0 : Nat} {w W : World} {b : Nat} {F Rr : Nat → Prop} {q : Option Addr} {c : Nat} {R : List Wm} (h : Go2 LB N0 w W b F Rr q c R) (hl : R.length ≤ 50000) :
    Calls Try.prog 12 #[ptr b, .slice q R.length c] W fun e W' => e = .returned (.bool true) ∧ Hid (Below W.heap.size W W') :=
  stands_any C b F Rr _ _ q R c W h.lb h.row hl
theorem Go2.begin {LB : World → Nat → (Nat → Prop) → (Nat → Prop) → List Wy → Prop} {w W : World} {b : Nat} {F Rr : Nat → Prop} (h : LB W b F Rr []) (hl : ∀ k, F k ∨ Rr k → w.heap.size ≤ k) (hb : Below w.heap.size w W) : Go2 LB w.heap.size w W b F Rr none 0 [] :=
  ⟨h, Rdw.nilRow _ _ _ _, fun _ => rfl, hl, (fun _ h => by cases h), hb⟩
set_option maxHeartbeats 4000000 in
set_option maxRecDepth 100000 in
/-- LinksAll -/
theorem all_any {LB : World → Nat → (Nat → Prop) → (Nat → Prop) → List Wy → Prop} (C : LinksIs LB) (p : Option Addr) (l : List Om) (c : Nat) (w : World) (hG : GivenO w p l) :
    Calls Try.prog 3 #[.slice p l.length c] w fun e w' => e = .returned (.bool true) ∧ Below w.heap.size w w' := by
  have HNew := hid (C.new w)
  have HG := hid hG
  obtain ⟨n, hn⟩ : ∃ n, l.length = n := ⟨_, rfl⟩
  have HN := hid hn
  rw [hn]
  clear hG hn
  go_enter Try.func3, Try.ntmps3
  go_wp2_with fail
  refine HNew.out.mono ?_; rintro e w1 ⟨b, F1, R1, rfl, hh⟩
  obtain ⟨hlb, hlow, hb1⟩ := hh.out
  have HB1 := hid hb1
  have HS1 := hid (Go2.begin hlb hlow hb1)
  have HFew := hid (few_any p l c w1 (HG.out.below hb1))
  rw [HN.out] at HFew
  clear hh hlb hlow hb1 HNew
  go_wp2_with fail
  refine HFew.out.mono ?_; rintro e w2 ⟨fb, rfl, hh⟩
  have HB2 := hid (HB1.out.trans (hh.out.2.mono HB1.out.size))
  have HS2 := hid (HS1.out.below C hh.out.2 HB1.out.size)
  have HF := hid hh.out.1
  clear hh HFew HS1 HB1
  have HAl := hid (fun W => alive_any C W)
  cases fb
  · go_wp2_with fail
    refine (HAl.out w2).mono ?_; rintro e w3 ⟨rfl, hb⟩
    have HB3 := hid (HB2.out.trans (hb.out.mono HB2.out.size))
    clear hb
    go_wp2_with fail
    go_ret
    exact ⟨rfl, HB3.out⟩
  · have HFw := hid (HF.out (by trivial))
    have hn200 : n ≤ 200 := by have h := HFw.out.1; rw [HN.out] at h; exact h
    clear HF
    go_wp2_with fail
    go_loopw [4, 24] (fun v4 v24 W => ∃ (i : Nat) (q : Option Addr) (c' N : Nat) (R : List Wm) (F Rr : Nat → Prop), v24 = .int .i64 (i : Int) ∧ v4 = .slice q N c' ∧ i ≤ n ∧ Hid (R.length = N) ∧ Hid (R.length ≤ i) ∧ Hid (Go2 LB w.heap.size w W b F Rr q c' R)) (fun _ v24 _ => n - (intOf v24).toNat)
    case atStart => exact ⟨0, none, 0, 0, [], F1, R1, rfl, rfl, Nat.zero_le _, rfl, Nat.le_refl _, HS2.out⟩
    case round =>
      obtain ⟨i, q, c', N, R, F, Rr, rfl, rfl, hi, HRN, HRi, HS⟩ := hrel
      by_cases hlt : i < n
      · have hiz : (i : Int) < (n : Int) := by omega
        have hiL : i < l.length := by have := HN.out; omega
        obtain ⟨g, o, rfl, hgl, hc⟩ := (HG.out.below HS.out.bel).facts i hiL
        have HRg := hid (op_range2 hc)
        have HXl := hid (op_low HG.out HS.out.bel i hiL)
        have HXf : Hid (FewL l[i].o.x ∧ IE l[i].o.frm l[i].o.dst) := HFw.out.2 l[i] (List.getElem_mem hiL)
        generalize l[i] = m at *
        clear hc
        obtain ⟨w3, hw3⟩ : ∃ W, (wr.alloc (.cells zeroO 35)).setRow wr.heap.size m.cells = W := ⟨_, rfl⟩
        have HW3 := hid hw3
        have hba : Below wr.heap.size wr w3 := by rw [← hw3]; exact below_setRow (below_alloc wr _) (Nat.le_refl _) _
        have hblk : w3.heap[wr.heap.size]? = some (.cells m.cells 35 (0, 0)) := by rw [← hw3]; exact setRow_heap _ _ _ _ _ _ (heap_alloc_new wr _)
        have HBk := hid hblk
        have hN0 := HS.out.bel.size
        have HS3 := hid (HS.out.below C hba hN0)
        have HDo := hid (HS3.out.does C (Nat.le_trans hN0 hba.size) m (HXl.out.below hba (Nat.le_refl _)) HXf.out (by have := HRi.out; omega))
        rw [HRN.out] at HDo
        obtain ⟨CO, hCO⟩ : ∃ C, m.cells = C := ⟨_, rfl⟩
        have hOs : CO.size = 16 := by rw [← hCO]; rfl
        have hO1 : CO.all (·.oneCell') = true := by rw [← hCO]; exact op_one m
        rw [hCO] at HRg HW3 HBk HDo
        have iO := infoOp CO hOs
        have hiO : (Try.prog.info? 35).map (·.size) = some CO.toList.length := by rw [Array.length_toList]; exact iO
        clear hw3 hba hblk HS HXl HXf hCO
        go_wp2_with (first | (refine wpList_load_mid rfl 35 _ rfl g (o + i * 16) rfl _ _ HRg.out Try.underlying35 rfl hiO (Hid.out ?_)))
        rw [Array.toArray_toList]
        refine hid ?_
        go_wp2_with (refine wpList_store_row rfl 35 _ _ rfl wr.heap.size CO rfl rfl 35 zeroO (heap_alloc_new wr _) iO (by rw [hOs]; rfl) hO1 (Hid.out ?_))
        rw [HW3.out]
        refine hid ?_
        go_wp2_with (refine wpList_load_row rfl 35 _ rfl wr.heap.size rfl 35 _ (0, 0) _ HBk.out Try.underlying35 rfl iO ?_)
        refine HDo.out.mono ?_; rintro e w4 ⟨q4, c4, N4, R4, F4, Rr4, rfl, hh⟩
        obtain ⟨h1, h2, h3, -, -⟩ := hh.out
        have HL4 : Hid (R4.length ≤ i + 1) := by unfold Hid; have e1 := HRi.out; have e2 := HRN.out; omega
        have HN4 := hid h1
        have HS4 := hid h2
        have HSt := hid (h2.stands C (by have := HL4.out; omega))
        rw [h1] at HSt
        clear hh h1 h2 h3 HDo HS3
        go_wp2_with fail
        refine HSt.out.mono ?_; rintro e w5 ⟨rfl, hb5⟩
        have HS5 := hid (HS4.out.below C hb5.out HS4.out.bel.size)
        clear hb5 HSt HS4
        go_wp2_with fail
        exact ⟨⟨i + 1, q4, c4, N4, R4, F4, Rr4, by go_num, rfl, by omega, HN4.out, HL4.out, HS5.out⟩, by simp [intOf]; omega⟩
      · have HBw := hid HS.out.bel
        clear HS
        go_wp2_with fail
        refine (HAl.out wr).mono ?_; rintro e w3 ⟨rfl, hb⟩
        have HB3 := hid (HBw.out.trans (hb.out.mono HBw.out.size))
        clear hb
        go_wp2_with fail
        go_ret
        exact ⟨rfl, HB3.out⟩

end Go.Proofs.Ytjcfbnhmljlkpaa
