/- does: a letter comes. -/
import Derived.Test.YtjcfbnhmljlkpaaLkDo1
namespace Go.Proofs.Ytjcfbnhmljlkpaa
open Go.RowKit

theorem first_some (R : List Wm) (f t : Int) : (firstM R f t).isSome = !(onV (ways R) f t).isEmpty := by
  have h := firstM_on R f t
  cases e : firstM R f t with
  | none => rw [e] at h; cases e2 : onV (ways R) f t with
    | nil => rfl
    | cons x l => rw [e2] at h; cases h
  | some m => rw [e] at h; cases e2 : onV (ways R) f t with
    | nil => rw [e2] at h; cases h
    | cons x l => rfl
theorem first_lt {G P : Nat → Prop} {w : World} {a : Option Addr} {R : List Wm} (h : Rdw G P w a R) (hw : ∀ mm ∈ R, FewL mm.y.x) (f t : Int) : ∃ ap ac rp rc, xC (firstM R f t) = ltC (headV (ways R) f t) ap ac rp rc ∧ LtR P w (headV (ways R) f t) ap rp ∧ (headV (ways R) f t).args.length ≤ 100 := by
  have e := firstM_on R f t
  unfold headV
  rw [← e]
  cases e1 : firstM R f t with
  | none => exact ⟨none, 0, none, 0, rfl, ⟨fun h => absurd rfl h, ⟨0, fun h => absurd rfl h⟩, by constructor <;> decide⟩, by decide⟩
  | some m => exact ⟨m.ap, m.ac, m.rp, m.rc, rfl, h.lies m (firstM_mem e1), (hw m (firstM_mem e1)).2⟩
set_option maxHeartbeats 4000000 in
set_option maxRecDepth 100000 in
theorem does_next {LB : World → Nat → (Nat → Prop) → (Nat → Prop) → List Wy → Prop} (C : LinksIs LB) (b : Nat) (F Rr G P : Nat → Prop) (a : Option Addr) (R : List Wm) (c : Nat) (m : Om) (w : World) (hLB : LB w b F Rr (ways R)) (hR : Rdw G P w a R) (hG : ∀ k, G k → ¬ F k) (hP : ∀ k, P k → ¬ F k) (hx : LtR P w m.o.x m.ap m.rp) (hf : FewL m.o.x ∧ IE m.o.frm m.o.dst) (hl : R.length ≤ 50000) (hw : ∀ mm ∈ R, FewL mm.y.x) (hk : m.o.kind = 1) :
    Calls Try.prog 11 #[ptr b, .slice a R.length c, .agg m.cells] w (DoesP LB b F Rr G P R m.o w) := by
  have hb0 := below_alloc w (.cells m.cells 35)
  have hX0 : (w.alloc (.cells m.cells 35)).heap[w.heap.size]? = some (.cells m.cells 35 (0, 0)) := heap_alloc_new w _
  obtain ⟨w2, hw2⟩ : ∃ w2, w.alloc (.cells m.cells 35) = w2 := ⟨_, rfl⟩
  rw [hw2] at hb0 hX0
  have hs2 : w2.heap.size = w.heap.size + 1 := by rw [← hw2]; simp
  have HB2 := hid hb0
  have HX2 := hid hX0
  have HW := hid hw2
  have HLt := hid (C.lt hLB)
  have HLB2 := hid (C.keep hLB (fun k hk => hb0.block k (C.lt hLB k hk)) hb0.size)
  have HR2 := hid (hR.below hb0)
  have HXL := hid (hx.below hb0 (Nat.le_refl _))
  have HG := hid hG
  have HP := hid hP
  have HWf := hid hw
  have HFl := hid hf
  clear hw2 hb0 hX0 hLB hR hx hG hP hw
  obtain ⟨f, hfr⟩ : ∃ f, m.o.frm = f := ⟨_, rfl⟩
  obtain ⟨t, hto⟩ : ∃ t, m.o.dst = t := ⟨_, rfl⟩
  have HIE : Hid (IE f t) := by unfold Hid; rw [← hfr, ← hto]; exact hf.2
  have HNx := hid (rnext_any G P a R c f t w2 HR2.out (by omega))
  have hk0 : (m.o.kind == 0) = false := by rw [hk]; rfl
  have hk1 : (m.o.kind == 1) = true := by rw [hk]; rfl
  have HOp : Hid (opV (ways R) m.o = cutV (ways R) f t) := by unfold Hid opV; rw [hk, hfr, hto]; rfl
  have HL := hid hl
  unfold DoesP
  rw [show opV (ways R) m.o = cutV (ways R) f t from HOp.out]
  have x0 : w2.cell? ⟨w.heap.size, 0, none⟩ = some (.int .i64 m.o.kind) := cell_of_row w2 (w.heap.size) 0 _ _ _ HX2.out
  have x1 : w2.cell? ⟨w.heap.size, 1, none⟩ = some (.int .i64 m.o.frm) := cell_of_row w2 (w.heap.size) 1 _ _ _ HX2.out
  have x2 : w2.cell? ⟨w.heap.size, 2, none⟩ = some (.int .i64 m.o.dst) := cell_of_row w2 (w.heap.size) 2 _ _ _ HX2.out
  rw [hfr] at x1
  rw [hto] at x2
  have HC1 := hid x1
  have HC2 := hid x2
  clear hk hfr hto HX2 hf hl HFl HOp
  unfold Om.cells at HW ⊢
  go_enter Try.func11, Try.ntmps11
  go_upto_region 1 with fail
  rw [HW.out]
  clear HW
  go_wp2_with fail
  refine HNx.out.mono ?_; rintro e w3 ⟨v3, rfl, ho3, hb3⟩
  obtain ⟨q3, d3, rfl⟩ := OwnW.shape ho3
  obtain ⟨ap, ac, rp, rc, hxe, hxl, hxa⟩ := first_lt HR2.out HWf.out f t
  rw [hxe, first_some]
  obtain ⟨X, hX⟩ : ∃ X, headV (ways R) f t = X := ⟨_, rfl⟩
  rw [hX] at hxl hxa
  rw [hX]
  obtain ⟨bb, hbb⟩ : ∃ b, (!(onV (ways R) f t).isEmpty) = b := ⟨_, rfl⟩
  rw [hbb]
  obtain ⟨n3, hn3⟩ : ∃ n, (cutM R f t).length = n := ⟨_, rfl⟩
  have HN3 := hid hn3
  have HO3 := hid ho3
  rw [hn3]
  obtain ⟨CA, hCA⟩ : ∃ C, ltC X ap ac rp rc = C := ⟨_, rfl⟩
  have HCA := hid hCA
  have hAs : CA.size = 13 := by rw [← hCA]; rfl
  have hA1 : CA.all (·.oneCell') = true := by rw [← hCA]; exact ltC_one _ _ _ _ _
  rw [hCA]
  have HXA := hid hxl
  have HXn := hid hxa
  have HB3 := hid hb3
  have HX := hid hX
  have Hbb := hid hbb
  have iA := infoLt CA hAs
  have hs3 : w.heap.size + 1 ≤ w3.heap.size := by have := hb3.size; omega
  obtain ⟨w4, hw4⟩ : ∃ W, (w3.alloc (.cells zeroL 33)).setRow w3.heap.size CA = W := ⟨_, rfl⟩
  have HW4 := hid hw4
  have hr4 : w4.heap[w3.heap.size]? = some (.cells CA 33 (0, 0)) := by rw [← hw4]; exact setRow_heap _ _ _ _ _ _ (heap_alloc_new w3 _)
  have hb4 : Below w3.heap.size w3 w4 := by rw [← hw4]; exact below_setRow (below_alloc w3 _) (Nat.le_refl _) _
  have HR4 := hid hr4
  have HB4 := hid hb4
  have hs4 : w3.heap.size + 1 ≤ w4.heap.size := by have := (Array.getElem?_eq_some_iff.1 hr4).1; omega
  have HBc := hid (hb3.trans (hb4.mono hb3.size))
  have HNext := hid (C.next (C.keep HLB2.out (fun k hk => HBc.out.block k (by have := HLt.out k hk; omega)) HBc.out.size) f t HIE.out (by rw [List.length_map]; have := HL.out; omega))
  rw [hX, hbb] at HNext
  clear hX hbb hn3 ho3 hb3 hxe hxl hxa hCA hw4 hr4 hb4 HNx x0 x1 x2
  go_wp2_with (refine wpList_store_row rfl 33 _ _ rfl w3.heap.size CA rfl rfl 33 zeroL (heap_alloc_new w3 _) iA (by rw [hAs]; rfl) hA1 (Hid.out ?_))
  rw [HW4.out]
  refine hid ?_
  have hop4 : w4.heap[w.heap.size]? = w2.heap[w.heap.size]? := HBc.out.block _ (by omega)
  have x1 : w4.cell? ⟨w.heap.size, 1, none⟩ = some (.int .i64 f) := cell_turn HC1.out hop4
  have x2 : w4.cell? ⟨w.heap.size, 2, none⟩ = some (.int .i64 t) := cell_turn HC2.out hop4
  clear hop4
  go_wp2_with fail
  refine HNext.out.mono ?_; rintro e w5 ⟨ap', ac', rp', rc', rfl, hh⟩
  obtain ⟨F5, R5, hx5, hlb5, hk5⟩ := hh.out
  obtain ⟨CB, hCB⟩ : ∃ C, ltC X ap' ac' rp' rc' = C := ⟨_, rfl⟩
  have HCB := hid hCB
  have hBs : CB.size = 13 := by rw [← hCB]; rfl
  have hBo : CB.all (·.oneCell') = true := by rw [← hCB]; exact ltC_one _ _ _ _ _
  rw [hCB]
  have iB := infoLt CB hBs
  obtain ⟨w6, hw6⟩ : ∃ W, (w5.alloc (.cells zeroL 33)).setRow w5.heap.size CB = W := ⟨_, rfl⟩
  have HW6 := hid hw6
  have hr6 : w6.heap[w5.heap.size]? = some (.cells CB 33 (0, 0)) := by rw [← hw6]; exact setRow_heap _ _ _ _ _ _ (heap_alloc_new w5 _)
  have hb6 : Below w5.heap.size w5 w6 := by rw [← hw6]; exact below_setRow (below_alloc w5 _) (Nat.le_refl _) _
  have hs5 : w4.heap.size ≤ w5.heap.size := hk5.like.size
  have hnF : ∀ k, w.heap.size ≤ k → ¬ F k := fun k hk hf => by have := HLt.out k (.inl hf); omega
  have HRA := hid (show w6.heap[w3.heap.size]? = some (.cells CA 33 (0, 0)) from (hb6.block _ (by omega)).trans ((hk5.block _ (by omega) (hnF _ (by omega))).trans HR4.out))
  have HRB := hid hr6
  have hxa6 : LtR P w6 X ap rp := ((HXA.out.below HBc.out (Nat.le_refl _)).turn (fun k hk hlt => ⟨hk, hk5.block k hlt (HP.out k hk)⟩)).below hb6 (Nat.le_refl _)
  have hxb6 : LtR All w6 X ap' rp' := (hx5.all).below hb6 (Nat.le_refl _)
  have HSame := hid (rsameL_any X X ap' ac' rp' rc' ap ac rp rc w6 hxb6 hxa6.all (by have := HXn.out; omega))
  have HEnd : Hid (∀ W, Below w6.heap.size w6 W → ∃ a' R' c' F' R'', (Ending.returned (.tuple #[.slice q3 n3 d3, .bool true])) = .returned (.tuple #[.slice a' R'.length c', .bool true]) ∧ Hid (LB W b F' R'' (ways R') ∧ Rdw (fun k => ¬ F' k ∧ (G k ∨ w.heap.size ≤ k)) P W a' R' ∧ (a' = none → c' = 0) ∧ Kp F F' Rr R'' w W ∧ R'.length ≤ R.length + 1 ∧ ways R' = cutV (ways R) f t ∧ ∀ mm ∈ R', FewL mm.y.x)) := fun W hb => by
    have hlt5 := C.lt hlb5
    have hb5W : Below w5.heap.size w5 W := hb6.trans (hb.mono hb6.size)
    have hlies : ∀ mm ∈ cutM R f t, LtR P w3 mm.y.x mm.ap mm.rp := fun mm hmm => (HR2.out.lies mm (cutM_sub R f t mm hmm)).below HB3.out (Nat.le_refl _)
    have ho3 : OwnW (w2.heap.size + 2) w3 (.slice q3 (cutM R f t).length d3) (cutM R f t) := HO3.out
    have hrd := OwnW.rdw (P := P) ho3 hlies
    refine ⟨q3, cutM R f t, d3, F5, R5, by rw [HN3.out], ?_, ?_, ?_, ?_, ?_, ?_, ?_⟩
    · rw [cutM_ways]
      exact C.keep hlb5 (fun k hk => hb5W.block k (hlt5 k hk)) hb5W.size
    · have h4 : Rdw (fun k => w2.heap.size + 2 ≤ k ∧ k < w4.heap.size) P w4 q3 (cutM R f t) := hrd.turn HB4.out.size (fun k hk hlt => ⟨⟨hk, by omega⟩, HB4.out.block k hlt⟩) (fun k hk hlt => ⟨hk, HB4.out.block k hlt⟩)
      have h5 : Rdw (fun k => ¬ F5 k ∧ (G k ∨ w.heap.size ≤ k)) P w5 q3 (cutM R f t) := h4.turn hs5
        (fun k hk hlt => ⟨⟨fun hf => (hk5.foot k hf).elim (hnF k (by omega)) (fun h => by omega), .inr (by omega)⟩, hk5.block k hlt (hnF k (by omega))⟩)
        (fun k hk hlt => ⟨hk, hk5.block k hlt (HP.out k hk)⟩)
      exact h5.below hb5W
    · intro hq
      subst hq
      rcases ho3.2 with ⟨h1, _⟩ | ⟨g, cap, cur, h1, _⟩
      · injection h1
      · cases h1
    · exact (Kp.of_below (F := F) (R := Rr) (HB2.out.trans (HBc.out.mono HB2.out.size)) (Nat.le_refl _)).trans (hk5.trans (Kp.of_below hb5W (Nat.le_refl _)))
    · have := cutM_len R f t; omega
    · exact cutM_ways R f t
    · exact fun mm hmm => HWf.out mm (cutM_sub R f t mm hmm)
  clear hh hx5 hlb5 hk5 hw6 hr6 hb6 hnF hxa6 hxb6 HR4 HB4 HB3 HBc HLB2 HR2 HXA HNext HO3 HG HP HWf HX HB2 HXL HLt x1 x2 HC1 HC2 hCB
  go_wp2_with (refine wpList_store_row rfl 33 _ _ rfl w5.heap.size CB rfl rfl 33 zeroL (heap_alloc_new w5 _) iB (by rw [hBs]; rfl) hBo (Hid.out ?_))
  rw [HW6.out]
  refine hid ?_
  rw [← HCA.out] at HRA
  rw [← HCB.out] at HRB
  unfold ltC at HRA HRB HSame
  have a0 := cell_of_row w6 (w3.heap.size) 0 _ _ _ HRA.out
  have b0 := cell_of_row w6 (w5.heap.size) 0 _ _ _ HRB.out
  have a1 := cell_of_row w6 (w3.heap.size) 1 _ _ _ HRA.out
  have b1 := cell_of_row w6 (w5.heap.size) 1 _ _ _ HRB.out
  have a2 := cell_of_row w6 (w3.heap.size) 2 _ _ _ HRA.out
  have b2 := cell_of_row w6 (w5.heap.size) 2 _ _ _ HRB.out
  have a3 := cell_of_row w6 (w3.heap.size) 3 _ _ _ HRA.out
  have b3 := cell_of_row w6 (w5.heap.size) 3 _ _ _ HRB.out
  have a4 := cell_of_row w6 (w3.heap.size) 4 _ _ _ HRA.out
  have b4 := cell_of_row w6 (w5.heap.size) 4 _ _ _ HRB.out
  have a5 := cell_of_row w6 (w3.heap.size) 5 _ _ _ HRA.out
  have b5 := cell_of_row w6 (w5.heap.size) 5 _ _ _ HRB.out
  have a6 := cell_of_row w6 (w3.heap.size) 6 _ _ _ HRA.out
  have b6 := cell_of_row w6 (w5.heap.size) 6 _ _ _ HRB.out
  have a7 := cell_of_row w6 (w3.heap.size) 7 _ _ _ HRA.out
  have b7 := cell_of_row w6 (w5.heap.size) 7 _ _ _ HRB.out
  have a8 := cell_of_row w6 (w3.heap.size) 8 _ _ _ HRA.out
  have b8 := cell_of_row w6 (w5.heap.size) 8 _ _ _ HRB.out
  have a9 := cell_of_row w6 (w3.heap.size) 9 _ _ _ HRA.out
  have b9 := cell_of_row w6 (w5.heap.size) 9 _ _ _ HRB.out
  have a10 := cell_of_row w6 (w3.heap.size) 10 _ _ _ HRA.out
  have b10 := cell_of_row w6 (w5.heap.size) 10 _ _ _ HRB.out
  have a11 := cell_of_row w6 (w3.heap.size) 11 _ _ _ HRA.out
  have b11 := cell_of_row w6 (w5.heap.size) 11 _ _ _ HRB.out
  have a12 := cell_of_row w6 (w3.heap.size) 12 _ _ _ HRA.out
  have b12 := cell_of_row w6 (w5.heap.size) 12 _ _ _ HRB.out
  clear HRA HRB HCA HCB HW4 HW6 hAs hA1 hBs hBo iA iB
  go_wp2_with fail
  refine HSame.out.mono ?_; rintro e w7 ⟨bs, rfl, hh⟩
  obtain rfl : bs = true := hh.out.1.2 (by trivial)
  have HF := hid (HEnd.out w7 hh.out.2)
  clear hh HEnd HSame
  go_wp2_with fail
  go_ret2
  exact HF.out
set_option maxHeartbeats 4000000 in
set_option maxRecDepth 100000 in
theorem does_none {LB : World → Nat → (Nat → Prop) → (Nat → Prop) → List Wy → Prop} (C : LinksIs LB) (b : Nat) (F Rr G P : Nat → Prop) (a : Option Addr) (R : List Wm) (c : Nat) (m : Om) (w : World) (hLB : LB w b F Rr (ways R)) (hR : Rdw G P w a R) (hac : a = none → c = 0) (hG : ∀ k, G k → ¬ F k) (hP : ∀ k, P k → ¬ F k) (hx : LtR P w m.o.x m.ap m.rp) (hf : FewL m.o.x ∧ IE m.o.frm m.o.dst) (hw : ∀ mm ∈ R, FewL mm.y.x) (hk0 : ¬ m.o.kind = 0) (hk1 : ¬ m.o.kind = 1) :
    Calls Try.prog 11 #[ptr b, .slice a R.length c, .agg m.cells] w (DoesP LB b F Rr G P R m.o w) := by
  have hb0 := below_alloc w (.cells m.cells 35)
  have hX0 : (w.alloc (.cells m.cells 35)).heap[w.heap.size]? = some (.cells m.cells 35 (0, 0)) := heap_alloc_new w _
  obtain ⟨w2, hw2⟩ : ∃ w2, w.alloc (.cells m.cells 35) = w2 := ⟨_, rfl⟩
  rw [hw2] at hb0 hX0
  have hs2 : w2.heap.size = w.heap.size + 1 := by rw [← hw2]; simp
  have HB2 := hid hb0
  have HX2 := hid hX0
  have HW := hid hw2
  have HLt := hid (C.lt hLB)
  have HLB2 := hid (C.keep hLB (fun k hk => hb0.block k (C.lt hLB k hk)) hb0.size)
  have HR2 := hid (hR.below hb0)
  have HXL := hid (hx.below hb0 (Nat.le_refl _))
  have HG := hid hG
  have HP := hid hP
  have HWf := hid hw
  have HFl := hid hf
  clear hw2 hb0 hX0 hLB hR hx hG hP hw
  have hz0 : (m.o.kind == 0) = false := beq_eq_false_iff_ne.2 hk0
  have hz1 : (m.o.kind == 1) = false := beq_eq_false_iff_ne.2 hk1
  have HOp : Hid (opV (ways R) m.o = ways R) := by unfold Hid opV; rw [if_neg hk0, if_neg hk1]
  have HEnd : Hid (DoesP LB b F Rr G P R m.o w (.returned (.tuple #[.slice a R.length c, .bool true])) w2) :=
    ⟨a, R, c, F, Rr, rfl, HLB2.out, HR2.out.turn (Nat.le_refl _) (fun k hk _ => ⟨⟨HG.out k hk, .inl hk⟩, rfl⟩) (fun k hk _ => ⟨hk, rfl⟩), hac, Kp.of_below HB2.out (Nat.le_refl _), by omega, HOp.out.symm, HWf.out⟩
  obtain ⟨n, hn⟩ : ∃ n, R.length = n := ⟨_, rfl⟩
  rw [hn] at HEnd ⊢
  have x0 : w2.cell? ⟨w.heap.size, 0, none⟩ = some (.int .i64 m.o.kind) := cell_of_row w2 (w.heap.size) 0 _ _ _ HX2.out
  clear hk0 hk1 HX2 hf hac hn HFl HOp HG HP HWf HR2 HXL HLB2 HLt
  unfold Om.cells at HW ⊢
  go_enter Try.func11, Try.ntmps11
  go_upto_region 1 with fail
  rw [HW.out]
  clear HW
  go_wp2_with fail
  go_ret2
  exact HEnd.out
/-- does -/
theorem does_any {LB : World → Nat → (Nat → Prop) → (Nat → Prop) → List Wy → Prop} (C : LinksIs LB) (b : Nat) (F Rr G P : Nat → Prop) (a : Option Addr) (R : List Wm) (c : Nat) (m : Om) (w : World) (hLB : LB w b F Rr (ways R)) (hR : Rdw G P w a R) (hac : a = none → c = 0) (hG : ∀ k, G k → ¬ F k) (hP : ∀ k, P k → ¬ F k) (hx : LtR P w m.o.x m.ap m.rp) (hf : FewL m.o.x ∧ IE m.o.frm m.o.dst) (hl : R.length ≤ 50000) (hw : ∀ mm ∈ R, FewL mm.y.x) :
    Calls Try.prog 11 #[ptr b, .slice a R.length c, .agg m.cells] w (DoesP LB b F Rr G P R m.o w) := by
  by_cases h0 : m.o.kind = 0
  · exact does_send C b F Rr G P a R c m w hLB hR hac hG hP hx hf hl hw h0
  · by_cases h1 : m.o.kind = 1
    · exact does_next C b F Rr G P a R c m w hLB hR hG hP hx hf hl hw h1
    · exact does_none C b F Rr G P a R c m w hLB hR hac hG hP hx hf hw h0 h1
end Go.Proofs.Ytjcfbnhmljlkpaa
