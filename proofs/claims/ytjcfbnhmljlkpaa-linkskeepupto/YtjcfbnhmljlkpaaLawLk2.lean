/- The walk of the law LinksApart. -/
import Derived.Test.YtjcfbnhmljlkpaaLawLk1
namespace Go.Proofs.Ytjcfbnhmljlkpaa
open Go.RowKit

/-- two links that do not meet, and a row of the document's for each -/
structure Two (LB : World → Nat → (Nat → Prop) → (Nat → Prop) → List Wy → Prop) (N0 : Nat) (w W : World) (b1 : Nat) (F1 R1 : Nat → Prop) (q1 : Option Addr) (c1 : Nat) (T1 : List Wm) (b2 : Nat) (F2 R2 : Nat → Prop) (q2 : Option Addr) (c2 : Nat) (T2 : List Wm) : Prop where
  lb1 : LB W b1 F1 R1 (ways T1)
  lb2 : LB W b2 F2 R2 (ways T2)
  row1 : Rdw (fun k => ¬ F1 k ∧ ¬ F2 k) (fun k => k < N0) W q1 T1
  row2 : Rdw (fun k => ¬ F1 k ∧ ¬ F2 k) (fun k => k < N0) W q2 T2
  nil1 : q1 = none → c1 = 0
  nil2 : q2 = none → c2 = 0
  low1 : ∀ k, F1 k ∨ R1 k → N0 ≤ k
  low2 : ∀ k, F2 k ∨ R2 k → N0 ≤ k
  sep1 : ∀ k, F1 k ∨ R1 k → ¬ F2 k
  sep2 : ∀ k, F2 k ∨ R2 k → ¬ F1 k
  few1 : ∀ mm ∈ T1, FewL mm.y.x
  few2 : ∀ mm ∈ T2, FewL mm.y.x
  bel : Below N0 w W
theorem Two.swap {LB : World → Nat → (Nat → Prop) → (Nat → Prop) → List Wy → Prop} {N0 : Nat} {w W : World} {b1 : Nat} {F1 R1 : Nat → Prop} {q1 : Option Addr} {c1 : Nat} {T1 : List Wm} {b2 : Nat} {F2 R2 : Nat → Prop} {q2 : Option Addr} {c2 : Nat} {T2 : List Wm} (h : Two LB N0 w W b1 F1 R1 q1 c1 T1 b2 F2 R2 q2 c2 T2) : Two LB N0 w W b2 F2 R2 q2 c2 T2 b1 F1 R1 q1 c1 T1 :=
  ⟨h.lb2, h.lb1, h.row2.turn (Nat.le_refl _) (fun _ hk _ => ⟨⟨hk.2, hk.1⟩, rfl⟩) (fun _ hk _ => ⟨hk, rfl⟩), h.row1.turn (Nat.le_refl _) (fun _ hk _ => ⟨⟨hk.2, hk.1⟩, rfl⟩) (fun _ hk _ => ⟨hk, rfl⟩), h.nil2, h.nil1, h.low2, h.low1, h.sep2, h.sep1, h.few2, h.few1, h.bel⟩
theorem Two.below {LB : World → Nat → (Nat → Prop) → (Nat → Prop) → List Wy → Prop} (C : LinksIs LB) {N0 : Nat} {w W : World} {b1 : Nat} {F1 R1 : Nat → Prop} {q1 : Option Addr} {c1 : Nat} {T1 : List Wm} {b2 : Nat} {F2 R2 : Nat → Prop} {q2 : Option Addr} {c2 : Nat} {T2 : List Wm} {W' : World} (h : Two LB N0 w W b1 F1 R1 q1 c1 T1 b2 F2 R2 q2 c2 T2) (hb : Below W.heap.size W W') (hN : N0 ≤ W.heap.size) : Two LB N0 w W' b1 F1 R1 q1 c1 T1 b2 F2 R2 q2 c2 T2 :=
  ⟨C.keep h.lb1 (fun k hk => hb.block k (C.lt h.lb1 k hk)) hb.size, C.keep h.lb2 (fun k hk => hb.block k (C.lt h.lb2 k hk)) hb.size, h.row1.below hb, h.row2.below hb, h.nil1, h.nil2, h.low1, h.low2, h.sep1, h.sep2, h.few1, h.few2, h.bel.trans (hb.mono hN)⟩
theorem Two.does {LB : World → Nat → (Nat → Prop) → (Nat → Prop) → List Wy → Prop} (C : LinksIs LB) {N0 : Nat} {w W : World} {b1 : Nat} {F1 R1 : Nat → Prop} {q1 : Option Addr} {c1 : Nat} {T1 : List Wm} {b2 : Nat} {F2 R2 : Nat → Prop} {q2 : Option Addr} {c2 : Nat} {T2 : List Wm} (h : Two LB N0 w W b1 F1 R1 q1 c1 T1 b2 F2 R2 q2 c2 T2) (hN : N0 ≤ W.heap.size) (m : Om) (hx : LtR (fun k => k < N0) W m.o.x m.ap m.rp) (hf : FewL m.o.x ∧ IE m.o.frm m.o.dst) (hl : T1.length ≤ 50000) :
    Calls Try.prog 11 #[ptr b1, .slice q1 T1.length c1, .agg m.cells] W fun e W' => ∃ q' c' N' R' F' R'', e = .returned (.tuple #[.slice q' N' c', .bool true]) ∧ Hid (R'.length = N' ∧ Two LB N0 w W' b1 F' R'' q' c' R' b2 F2 R2 q2 c2 T2 ∧ R'.length ≤ T1.length + 1) := by
  refine (does_any C b1 F1 R1 (fun k => ¬ F1 k ∧ ¬ F2 k) (fun k => k < N0) q1 T1 c1 m W h.lb1 h.row1 h.nil1 (fun k hk => hk.1) (fun k hk hf => by have := h.low1 k (.inl hf); omega) hx hf hl h.few1).mono ?_
  rintro e W' ⟨q', R', c', F', R'', rfl, hh⟩
  obtain ⟨g1, g2, g3, g4, g5, g6, g7⟩ := hh.out
  have hN' : ∀ k, F1 k → N0 ≤ k := fun k hk => h.low1 k (.inl hk)
  have hlt2 := C.lt h.lb2
  have hF' : ∀ k, F' k ∨ R'' k → ¬ F2 k := fun k hk hf => by
    have := hlt2 k (.inl hf)
    rcases hk with hk | hk
    · exact (g4.foot k hk).elim (fun e => h.sep1 k (.inl e) hf) (fun e => by omega)
    · exact (g4.rows k hk).elim (fun e => h.sep1 k (.inr e) hf) (fun e => by omega)
  have hF2 : ∀ k, F2 k ∨ R2 k → ¬ F' k := fun k hk hf => by
    have := hlt2 k hk
    exact (g4.foot k hf).elim (fun e => h.sep2 k hk e) (fun e => by omega)
  exact ⟨q', c', _, R', F', R'', rfl, rfl, ⟨g1, C.keep h.lb2 (fun k hk => g4.block k (hlt2 k hk) (h.sep2 k hk)) g4.like.size,
    g2.turn (Nat.le_refl _) (fun k hk _ => ⟨⟨hk.1, hk.2.elim (fun e => e.2) (fun e hf => by have := hlt2 k (.inl hf); omega)⟩, rfl⟩) (fun k hk _ => ⟨hk, rfl⟩),
    h.row2.turn g4.like.size (fun k hk hlt => ⟨⟨fun hf => (g4.foot k hf).elim hk.1 (fun e => by omega), hk.2⟩, g4.block k hlt hk.1⟩) (fun k hk hlt => ⟨hk, g4.block k hlt (fun hf => by have := hN' k hf; omega)⟩),
    g3, h.nil2, fun k hk => by
      rcases hk with hk | hk
      · exact (g4.foot k hk).elim (fun e => h.low1 k (.inl e)) (fun e => by omega)
      · exact (g4.rows k hk).elim (fun e => h.low1 k (.inr e)) (fun e => by omega), h.low2, hF', hF2, g7, h.few2, h.bel.trans (g4.below hN' hN)⟩, g5⟩
theorem Two.stands {LB : World → Nat → (Nat → Prop) → (Nat → Prop) → List Wy → Prop} (C : LinksIs LB) {N0 : Nat} {w W : World} {b1 : Nat} {F1 R1 : Nat → Prop} {q1 : Option Addr} {c1 : Nat} {T1 : List Wm} {b2 : Nat} {F2 R2 : Nat → Prop} {q2 : Option Addr} {c2 : Nat} {T2 : List Wm} (h : Two LB N0 w W b1 F1 R1 q1 c1 T1 b2 F2 R2 q2 c2 T2) (hl : T1.length ≤ 50000) :
    Calls Try.prog 12 #[ptr b1, .slice q1 T1.length c1] W fun e W' => e = .returned (.bool true) ∧ Hid (Below W.heap.size W W') :=
  stands_any C b1 F1 R1 _ _ q1 T1 c1 W h.lb1 h.row1 hl
theorem Two.clone {LB : World → Nat → (Nat → Prop) → (Nat → Prop) → List Wy → Prop} (C : LinksIs LB) {N0 : Nat} {w W W' : World} {b b' : Nat} {F Rr F' R' : Nat → Prop} {q : Option Addr} {c : Nat} {T : List Wm} (h : Go2 LB N0 w W b F Rr q c T) (hN : N0 ≤ W.heap.size) (h' : LB W' b' F' R' (ways T)) (hF : ∀ k, F' k → W.heap.size ≤ k) (hR : ∀ k, R' k → Rr k ∨ W.heap.size ≤ k) (hb : Below W.heap.size W W') : Two LB N0 w W' b F Rr q c T b' F' R' q c T := by
  have hlt := C.lt h.lb
  have hrow : Rdw (fun k => ¬ F k ∧ ¬ F' k) (fun k => k < N0) W' q T := h.row.turn hb.size (fun k hk hlt => ⟨⟨hk, fun hf => by have := hF k hf; omega⟩, hb.block k hlt⟩) (fun k hk hlt => ⟨hk, hb.block k hlt⟩)
  refine ⟨C.keep h.lb (fun k hk => hb.block k (hlt k hk)) hb.size, h', hrow, hrow, h.nil, h.nil, h.low, fun k hk => ?_, fun k hk hf => ?_, fun k hk hf => ?_, h.few, h.few, h.bel.trans (hb.mono hN)⟩
  · rcases hk with hk | hk
    · exact Nat.le_trans hN (hF k hk)
    · exact (hR k hk).elim (fun e => h.low k (.inr e)) (fun e => by omega)
  · have := hlt k hk; have := hF k hf; omega
  · have hkf := hlt k (.inl hf)
    rcases hk with hk | hk
    · have := hF k hk; omega
    · exact (hR k hk).elim (fun e => C.sep h.lb k e hf) (fun e => by omega)
set_option maxHeartbeats 8000000 in
set_option maxRecDepth 100000 in
/-- LinksApart -/
theorem apart_any {LB : World → Nat → (Nat → Prop) → (Nat → Prop) → List Wy → Prop} (C : LinksIs LB) (p : Option Addr) (l : List Om) (c : Nat) (p' : Option Addr) (l' : List Om) (c' : Nat) (w : World) (hG : GivenO w p l) (hG' : GivenO w p' l') :
    Calls Try.prog 4 #[.slice p l.length c, .slice p' l'.length c'] w fun e w' => e = .returned (.bool true) ∧ Below w.heap.size w w' := by
  have HNew := hid (C.new w)
  have HG := hid hG
  have HG' := hid hG'
  obtain ⟨n, hn⟩ : ∃ n, l.length = n := ⟨_, rfl⟩
  have HN := hid hn
  obtain ⟨n', hn'⟩ : ∃ n, l'.length = n := ⟨_, rfl⟩
  have HN' := hid hn'
  rw [hn, hn']
  clear hG hn hG' hn'
  go_enter Try.func4, Try.ntmps4
  go_wp2_with fail
  refine HNew.out.mono ?_; rintro e w1 ⟨b, F1, R1, rfl, hh⟩
  obtain ⟨hlb, hlow, hb1⟩ := hh.out
  have HB1 := hid hb1
  have HS1 := hid (Go2.begin hlb hlow hb1)
  have HFew := hid (few_any p l c w1 (HG.out.below hb1))
  rw [HN.out] at HFew
  clear hh hlb hlow hb1 HNew
  go_wp2_with fail
  refine HFew.out.mono ?_; rintro e w2 ⟨fb, rfl, hh⟩
  have HB2 := hid (HB1.out.trans (hh.out.2.mono HB1.out.size))
  have HS2 := hid (HS1.out.below C hh.out.2 HB1.out.size)
  have HF := hid hh.out.1
  clear hh HFew HS1 HB1
  have HAl := hid (fun W => alive_any C W)
  cases fb
  · go_wp2_with fail
    refine (HAl.out w2).mono ?_; rintro e w3 ⟨rfl, hb⟩
    have HB3 := hid (HB2.out.trans (hb.out.mono HB2.out.size))
    clear hb
    go_wp2_with fail
    go_ret
    exact ⟨rfl, HB3.out⟩
  have HFew' := hid (few_any p' l' c' w2 (HG'.out.below HB2.out))
  rw [HN'.out] at HFew'
  go_wp2_with fail
  refine HFew'.out.mono ?_; rintro e w3 ⟨fb, rfl, hh⟩
  have HB3 := hid (HB2.out.trans (hh.out.2.mono HB2.out.size))
  have HS3 := hid (HS2.out.below C hh.out.2 HB2.out.size)
  have HF' := hid hh.out.1
  clear hh HFew' HS2 HB2
  cases fb
  · go_wp2_with fail
    refine (HAl.out w3).mono ?_; rintro e w4 ⟨rfl, hb⟩
    have HB4 := hid (HB3.out.trans (hb.out.mono HB3.out.size))
    clear hb
    go_wp2_with fail
    go_ret
    exact ⟨rfl, HB4.out⟩
  have HFw := hid (HF.out (by trivial))
  have HFw' := hid (HF'.out (by trivial))
  have hn200 : n ≤ 200 := by have h := HFw.out.1; rw [HN.out] at h; exact h
  have hn200' : n' ≤ 200 := by have h := HFw'.out.1; rw [HN'.out] at h; exact h
  clear HF HF'
  go_wp2_with fail
  go_loopw [6, 42] (fun v6 v42 W => ∃ (i : Nat) (q : Option Addr) (c' N : Nat) (R : List Wm) (F Rr : Nat → Prop), v42 = .int .i64 (i : Int) ∧ v6 = .slice q N c' ∧ i ≤ n ∧ Hid (R.length = N) ∧ Hid (R.length ≤ i) ∧ Hid (Go2 LB w.heap.size w W b F Rr q c' R)) (fun _ v42 _ => n - (intOf v42).toNat)
  case atStart => exact ⟨0, none, 0, 0, [], F1, R1, rfl, rfl, Nat.zero_le _, rfl, Nat.le_refl _, HS3.out⟩
  case round =>
    obtain ⟨i, q, c', N, R, F, Rr, rfl, rfl, hi, HRN, HRi, HS⟩ := hrel
    by_cases hlt : i < n
    · clear HS3 HB3
      have hiz : (i : Int) < (n : Int) := by omega
      have hiL : i < l.length := by have := HN.out; omega
      obtain ⟨g, o, rfl, hgl, hc⟩ := (HG.out.below HS.out.bel).facts i hiL
      have HRg := hid (op_range2 hc)
      have HXl := hid (op_low HG.out HS.out.bel i hiL)
      have HXf : Hid (FewL l[i].o.x ∧ IE l[i].o.frm l[i].o.dst) := HFw.out.2 l[i] (List.getElem_mem hiL)
      generalize l[i] = m at *
      clear hc
      obtain ⟨w3, hw3⟩ : ∃ W, (wr.alloc (.cells zeroO 35)).setRow wr.heap.size m.cells = W := ⟨_, rfl⟩
      have HW3 := hid hw3
      have hba : Below wr.heap.size wr w3 := by rw [← hw3]; exact below_setRow (below_alloc wr _) (Nat.le_refl _) _
      have hblk : w3.heap[wr.heap.size]? = some (.cells m.cells 35 (0, 0)) := by rw [← hw3]; exact setRow_heap _ _ _ _ _ _ (heap_alloc_new wr _)
      have HBk := hid hblk
      have hN0 := HS.out.bel.size
      have HS3 := hid (HS.out.below C hba hN0)
      have HDo := hid (HS3.out.does C (Nat.le_trans hN0 hba.size) m (HXl.out.below hba (Nat.le_refl _)) HXf.out (by have := HRi.out; omega))
      rw [HRN.out] at HDo
      obtain ⟨CO, hCO⟩ : ∃ C, m.cells = C := ⟨_, rfl⟩
      have hOs : CO.size = 16 := by rw [← hCO]; rfl
      have hO1 : CO.all (·.oneCell') = true := by rw [← hCO]; exact op_one m
      rw [hCO] at HRg HW3 HBk HDo
      have iO := infoOp CO hOs
      have hiO : (Try.prog.info? 35).map (·.size) = some CO.toList.length := by rw [Array.length_toList]; exact iO
      clear hw3 hba hblk HS HXl HXf hCO
      go_upto_region 7 with fail
      go_wp2_with (first | (refine wpList_load_mid rfl 35 _ rfl g (o + i * 16) rfl _ _ HRg.out Try.underlying35 rfl hiO (Hid.out ?_)))
      rw [Array.toArray_toList]
      refine hid ?_
      go_wp2_with (refine wpList_store_row rfl 35 _ _ rfl wr.heap.size CO rfl rfl 35 zeroO (heap_alloc_new wr _) iO (by rw [hOs]; rfl) hO1 (Hid.out ?_))
      rw [HW3.out]
      refine hid ?_
      go_wp2_with (refine wpList_load_row rfl 35 _ rfl wr.heap.size rfl 35 _ (0, 0) _ HBk.out Try.underlying35 rfl iO ?_)
      refine HDo.out.mono ?_; rintro e w4 ⟨q4, c4, N4, R4, F4, Rr4, rfl, hh⟩
      obtain ⟨h1, h2, h3, -, -⟩ := hh.out
      have HL4 : Hid (R4.length ≤ i + 1) := by unfold Hid; have e1 := HRi.out; have e2 := HRN.out; omega
      have HN4 := hid h1
      have HS4 := hid h2
      clear hh h1 h2 h3 HDo HS3 HBk iO hiO hOs hO1 HRg HW3
      go_wp2_with fail
      exact ⟨⟨i + 1, q4, c4, N4, R4, F4, Rr4, by go_num, rfl, by omega, HN4.out, HL4.out, HS4.out⟩, by simp [intOf]; omega⟩
    · have HRl : Hid (R.length ≤ 200) := by unfold Hid; have := HRi.out; omega
      have HCl := hid (C.clone HS.out.lb (by rw [List.length_map]; have := HRl.out; omega))
      clear HS3 HB3 HRi HG HFw HN
      go_wp2_with fail
      refine HCl.out.mono ?_; rintro e w4 ⟨b', F', R', rfl, hh⟩
      obtain ⟨h1, h2, h3, h4⟩ := hh.out
      have HT := hid (Two.clone C HS.out HS.out.bel.size h1 h2 h3 h4)
      clear hh h1 h2 h3 h4 HCl HS
      go_wp2_with fail
      go_loopw [12, 64] (fun v12 v64 W => ∃ (i : Nat) (q2 : Option Addr) (c2 N2 : Nat) (T2 : List Wm) (F2 R2 : Nat → Prop), v64 = .int .i64 (i : Int) ∧ v12 = .slice q2 N2 c2 ∧ i ≤ n' ∧ Hid (T2.length = N2) ∧ Hid (T2.length ≤ 200 + i) ∧ Hid (Two LB w.heap.size w W b' F2 R2 q2 c2 T2 b F Rr q c' R)) (fun _ v64 _ => n' - (intOf v64).toNat)
      case atStart => exact ⟨0, q, c', N, R, F', R', rfl, rfl, Nat.zero_le _, HRN.out, HRl.out, HT.out.swap⟩
      case round =>
        obtain ⟨i2, q2, c2, N2, T2, F2, R2, rfl, rfl, hi2, HRN2, HRi2, HS⟩ := hrel
        by_cases hlt2 : i2 < n'
        · clear HT
          have hiz : (i2 : Int) < (n' : Int) := by omega
          have hiL : i2 < l'.length := by have := HN'.out; omega
          obtain ⟨g, o, rfl, hgl, hc⟩ := (HG'.out.below HS.out.bel).facts i2 hiL
          have HRg := hid (op_range2 hc)
          have HXl := hid (op_low HG'.out HS.out.bel i2 hiL)
          have HXf : Hid (FewL l'[i2].o.x ∧ IE l'[i2].o.frm l'[i2].o.dst) := HFw'.out.2 l'[i2] (List.getElem_mem hiL)
          generalize l'[i2] = m at *
          clear hc
          obtain ⟨w3, hw3⟩ : ∃ W, (wr.alloc (.cells zeroO 35)).setRow wr.heap.size m.cells = W := ⟨_, rfl⟩
          have HW3 := hid hw3
          have hba : Below wr.heap.size wr w3 := by rw [← hw3]; exact below_setRow (below_alloc wr _) (Nat.le_refl _) _
          have hblk : w3.heap[wr.heap.size]? = some (.cells m.cells 35 (0, 0)) := by rw [← hw3]; exact setRow_heap _ _ _ _ _ _ (heap_alloc_new wr _)
          have HBk := hid hblk
          have hN0 := HS.out.bel.size
          have HS3 := hid (HS.out.below C hba hN0)
          have HDo := hid (HS3.out.does C (Nat.le_trans hN0 hba.size) m (HXl.out.below hba (Nat.le_refl _)) HXf.out (by have := HRi2.out; omega))
          rw [HRN2.out] at HDo
          obtain ⟨CO, hCO⟩ : ∃ C, m.cells = C := ⟨_, rfl⟩
          have hOs : CO.size = 16 := by rw [← hCO]; rfl
          have hO1 : CO.all (·.oneCell') = true := by rw [← hCO]; exact op_one m
          rw [hCO] at HRg HW3 HBk HDo
          have iO := infoOp CO hOs
          have hiO : (Try.prog.info? 35).map (·.size) = some CO.toList.length := by rw [Array.length_toList]; exact iO
          clear hw3 hba hblk HS HXl HXf hCO
          go_upto_region 19 with fail
          go_wp2_with (first | (refine wpList_load_mid rfl 35 _ rfl g (o + i2 * 16) rfl _ _ HRg.out Try.underlying35 rfl hiO (Hid.out ?_)))
          rw [Array.toArray_toList]
          refine hid ?_
          go_wp2_with (refine wpList_store_row rfl 35 _ _ rfl wr.heap.size CO rfl rfl 35 zeroO (heap_alloc_new wr _) iO (by rw [hOs]; rfl) hO1 (Hid.out ?_))
          rw [HW3.out]
          refine hid ?_
          go_wp2_with (refine wpList_load_row rfl 35 _ rfl wr.heap.size rfl 35 _ (0, 0) _ HBk.out Try.underlying35 rfl iO ?_)
          refine HDo.out.mono ?_; rintro e w5 ⟨q4, c4, N4, R4, F4, Rr4, rfl, hh⟩
          obtain ⟨h1, h2, h3⟩ := hh.out
          have HL4 : Hid (R4.length ≤ 200 + (i2 + 1)) := by unfold Hid; have e1 := HRi2.out; have e2 := HRN2.out; omega
          have HN4 := hid h1
          have HS4 := hid h2
          clear hh h1 h2 h3 HDo HS3 HBk iO hiO hOs hO1 HRg HW3
          go_wp2_with fail
          exact ⟨⟨i2 + 1, q4, c4, N4, R4, F4, Rr4, by go_num, rfl, by omega, HN4.out, HL4.out, HS4.out⟩, by simp [intOf]; omega⟩
        · have HR2l : Hid (T2.length ≤ 400) := by unfold Hid; have := HRi2.out; omega
          have HS2 := hid HS.out.swap
          have HSt := hid (HS2.out.stands C (by have := HRl.out; omega))
          rw [HRN.out] at HSt
          clear HT HRi2 HS
          go_wp2_with fail
          refine HSt.out.mono ?_; rintro e w5 ⟨rfl, hb5⟩
          have HS5 := hid (HS2.out.below C hb5.out HS2.out.bel.size)
          clear hb5 HSt HS2
          go_wp2_with fail
          go_loopw [6, 84] (fun v6 v84 W => ∃ (i : Nat) (q1 : Option Addr) (c1 N1 : Nat) (T1 : List Wm) (F1 R1 : Nat → Prop), v84 = .int .i64 (i : Int) ∧ v6 = .slice q1 N1 c1 ∧ i ≤ n' ∧ Hid (T1.length = N1) ∧ Hid (T1.length ≤ 200 + i) ∧ Hid (Two LB w.heap.size w W b F1 R1 q1 c1 T1 b' F2 R2 q2 c2 T2)) (fun _ v84 _ => n' - (intOf v84).toNat)
          case atStart => exact ⟨0, q, c', N, R, F, Rr, rfl, rfl, Nat.zero_le _, HRN.out, HRl.out, HS5.out⟩
          case round =>
            obtain ⟨i3, q3, c3, N3, T3, F3, R3, rfl, rfl, hi3, HRN3, HRi3, HS⟩ := hrel
            by_cases hlt3 : i3 < n'
            · clear HS5
              have hiz : (i3 : Int) < (n' : Int) := by omega
              have hiL : i3 < l'.length := by have := HN'.out; omega
              obtain ⟨g, o, rfl, hgl, hc⟩ := (HG'.out.below HS.out.bel).facts i3 hiL
              have HRg := hid (op_range2 hc)
              have HXl := hid (op_low HG'.out HS.out.bel i3 hiL)
              have HXf : Hid (FewL l'[i3].o.x ∧ IE l'[i3].o.frm l'[i3].o.dst) := HFw'.out.2 l'[i3] (List.getElem_mem hiL)
              generalize l'[i3] = m at *
              clear hc
              obtain ⟨w3, hw3⟩ : ∃ W, (wr.alloc (.cells zeroO 35)).setRow wr.heap.size m.cells = W := ⟨_, rfl⟩
              have HW3 := hid hw3
              have hba : Below wr.heap.size wr w3 := by rw [← hw3]; exact below_setRow (below_alloc wr _) (Nat.le_refl _) _
              have hblk : w3.heap[wr.heap.size]? = some (.cells m.cells 35 (0, 0)) := by rw [← hw3]; exact setRow_heap _ _ _ _ _ _ (heap_alloc_new wr _)
              have HBk := hid hblk
              have hN0 := HS.out.bel.size
              have HS3 := hid (HS.out.below C hba hN0)
              have HDo := hid (HS3.out.does C (Nat.le_trans hN0 hba.size) m (HXl.out.below hba (Nat.le_refl _)) HXf.out (by have := HRi3.out; omega))
              rw [HRN3.out] at HDo
              obtain ⟨CO, hCO⟩ : ∃ C, m.cells = C := ⟨_, rfl⟩
              have hOs : CO.size = 16 := by rw [← hCO]; rfl
              have hO1 : CO.all (·.oneCell') = true := by rw [← hCO]; exact op_one m
              rw [hCO] at HRg HW3 HBk HDo
              have iO := infoOp CO hOs
              have hiO : (Try.prog.info? 35).map (·.size) = some CO.toList.length := by rw [Array.length_toList]; exact iO
              clear hw3 hba hblk HS HXl HXf hCO
              go_upto_region 28 with fail
              go_wp2_with (first | (refine wpList_load_mid rfl 35 _ rfl g (o + i3 * 16) rfl _ _ HRg.out Try.underlying35 rfl hiO (Hid.out ?_)))
              rw [Array.toArray_toList]
              refine hid ?_
              go_wp2_with (refine wpList_store_row rfl 35 _ _ rfl wr.heap.size CO rfl rfl 35 zeroO (heap_alloc_new wr _) iO (by rw [hOs]; rfl) hO1 (Hid.out ?_))
              rw [HW3.out]
              refine hid ?_
              go_wp2_with (refine wpList_load_row rfl 35 _ rfl wr.heap.size rfl 35 _ (0, 0) _ HBk.out Try.underlying35 rfl iO ?_)
              refine HDo.out.mono ?_; rintro e w6 ⟨q4, c4, N4, R4, F4, Rr4, rfl, hh⟩
              obtain ⟨h1, h2, h3⟩ := hh.out
              have HL4 : Hid (R4.length ≤ 200 + (i3 + 1)) := by unfold Hid; have e1 := HRi3.out; have e2 := HRN3.out; omega
              have HN4 := hid h1
              have HS4 := hid h2
              clear hh h1 h2 h3 HDo HS3 HBk iO hiO hOs hO1 HRg HW3
              go_wp2_with fail
              exact ⟨⟨i3 + 1, q4, c4, N4, R4, F4, Rr4, by go_num, rfl, by omega, HN4.out, HL4.out, HS4.out⟩, by simp [intOf]; omega⟩
            · clear HS5
              go_wp2_with fail
              refine (HAl.out wr).mono ?_; rintro e w6 ⟨rfl, hb6⟩
              have HS6 := hid (HS.out.below C hb6.out HS.out.bel.size)
              have HSu := hid (HS6.out.swap.stands C (by have := HR2l.out; omega))
              rw [HRN2.out] at HSu
              clear hb6 HS
              go_wp2_with fail
              refine HSu.out.mono ?_; rintro e w7 ⟨rfl, hb7⟩
              have HS7 := hid (HS6.out.below C hb7.out HS6.out.bel.size)
              have HSv := hid (HS7.out.stands C (by have := HRi3.out; omega))
              rw [HRN3.out] at HSv
              clear hb7 HS6 HSu
              go_wp2_with fail
              refine HSv.out.mono ?_; rintro e w8 ⟨rfl, hb8⟩
              have HB8 := hid (HS7.out.bel.trans (hb8.out.mono HS7.out.bel.size))
              clear hb8 HS7 HSv
              go_wp2_with fail
              go_ret
              exact ⟨rfl, HB8.out⟩
end Go.Proofs.Ytjcfbnhmljlkpaa
