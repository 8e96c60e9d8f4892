/- does: a letter is sent. -/
import Derived.Test.YtjcfbnhmljlkpaaLkDo0
namespace Go.Proofs.Ytjcfbnhmljlkpaa
open Go.RowKit

/-- what is on its way behind a call -/
def opV (ws : List Wy) (o : OpL) : List Wy := if o.kind = 0 then ws ++ [⟨o.frm, o.dst, o.x⟩] else if o.kind = 1 then cutV ws o.frm o.dst else ws
/-- what does tells -/
def DoesP (LB : World → Nat → (Nat → Prop) → (Nat → Prop) → List Wy → Prop) (b : Nat) (F Rr G P : Nat → Prop) (R : List Wm) (o : OpL) (w : World) (e : Ending) (w' : World) : Prop :=
  ∃ a' R' c' F' R'', e = .returned (.tuple #[.slice a' R'.length c', .bool true]) ∧ Hid (LB w' b F' R'' (ways R') ∧ Rdw (fun k => ¬ F' k ∧ (G k ∨ w.heap.size ≤ k)) P w' a' R' ∧ (a' = none → c' = 0) ∧ Kp F F' Rr R'' w w' ∧ R'.length ≤ R.length + 1 ∧ ways R' = opV (ways R) o ∧ ∀ mm ∈ R', FewL mm.y.x)
set_option maxHeartbeats 4000000 in
set_option maxRecDepth 100000 in
theorem does_send {LB : World → Nat → (Nat → Prop) → (Nat → Prop) → List Wy → Prop} (C : LinksIs LB) (b : Nat) (F Rr G P : Nat → Prop) (a : Option Addr) (R : List Wm) (c : Nat) (m : Om) (w : World) (hLB : LB w b F Rr (ways R)) (hR : Rdw G P w a R) (hac : a = none → c = 0) (hG : ∀ k, G k → ¬ F k) (hP : ∀ k, P k → ¬ F k) (hx : LtR P w m.o.x m.ap m.rp) (hf : FewL m.o.x ∧ IE m.o.frm m.o.dst) (hl : R.length ≤ 50000) (hw : ∀ mm ∈ R, FewL mm.y.x) (hk : m.o.kind = 0) :
    Calls Try.prog 11 #[ptr b, .slice a R.length c, .agg m.cells] w (DoesP LB b F Rr G P R m.o w) := by
  have hb0 := below_alloc w (.cells m.cells 35)
  have hX0 : (w.alloc (.cells m.cells 35)).heap[w.heap.size]? = some (.cells m.cells 35 (0, 0)) := heap_alloc_new w _
  obtain ⟨w2, hw2⟩ : ∃ w2, w.alloc (.cells m.cells 35) = w2 := ⟨_, rfl⟩
  rw [hw2] at hb0 hX0
  have hs2 : w2.heap.size = w.heap.size + 1 := by rw [← hw2]; simp
  have HB2 := hid hb0
  have HX2 := hid hX0
  have HW := hid hw2
  have HLt := hid (C.lt hLB)
  have HLB2 := hid (C.keep hLB (fun k hk => hb0.block k (C.lt hLB k hk)) hb0.size)
  have HR2 := hid (hR.below hb0)
  have HXL := hid (hx.below hb0 (Nat.le_refl _))
  have HG := hid hG
  have HP := hid hP
  have HWf := hid hw
  have HFl := hid hf
  clear hw2 hb0 hX0 hLB hR hx hG hP hw
  have HSend := hid (C.send HLB2.out m.o.frm m.o.dst m.o.x m.ap m.ac m.rp m.rc HXL.out.all HFl.out.1 HFl.out.2 (by rw [List.length_map]; omega))
  have HK := hid hk
  have hkz : (m.o.kind == 0) = true := beq_iff_eq.2 hk
  obtain ⟨CL, hCL⟩ : ∃ C, ltC m.o.x m.ap m.ac m.rp m.rc = C := ⟨_, rfl⟩
  have HCL := hid hCL
  have HRg : Hid (w2.rangeAt w.heap.size 3 CL.toList) := by rw [← hCL]; exact op_range HX2.out
  have hCs : CL.size = 13 := by rw [← hCL]; rfl
  have hiL : (Try.prog.info? 33).map (·.size) = some CL.toList.length := by rw [Array.length_toList, hCs]; kernel_rfl
  rw [hCL] at HSend
  obtain ⟨CO, hCO⟩ : ∃ C, m.cells = C := ⟨_, rfl⟩
  have HCO := hid hCO
  have hsO : CO.size = 16 := by rw [← hCO]; rfl
  unfold DoesP
  obtain ⟨n, hn⟩ : ∃ n, R.length = n := ⟨_, rfl⟩
  have HN := hid hn
  rw [hn]
  have x0 : w2.cell? ⟨w.heap.size, 0, none⟩ = some (.int .i64 m.o.kind) := cell_of_row w2 (w.heap.size) 0 _ _ _ HX2.out
  have x1 : w2.cell? ⟨w.heap.size, 1, none⟩ = some (.int .i64 m.o.frm) := cell_of_row w2 (w.heap.size) 1 _ _ _ HX2.out
  have x2 : w2.cell? ⟨w.heap.size, 2, none⟩ = some (.int .i64 m.o.dst) := cell_of_row w2 (w.heap.size) 2 _ _ _ HX2.out
  clear hk hCL hCO hn
  unfold Om.cells at HW ⊢
  go_enter Try.func11, Try.ntmps11
  go_upto_region 1 with fail
  rw [HW.out]
  clear HW
  go_wp2_with (refine wpList_load_mid rfl 33 _ rfl w.heap.size 3 rfl _ _ HRg.out Try.underlying33 rfl hiL (Hid.out ?_))
  rw [Array.toArray_toList]
  refine hid ?_
  go_wp2_with fail
  refine HSend.out.mono ?_; rintro e w3 ⟨rfl, hh⟩
  obtain ⟨F3, R3, hLB3, hkp3⟩ := hh.out
  have hs3 : w.heap.size + 1 ≤ w3.heap.size := by have := hkp3.like.size; omega
  have hnF : ¬ F w.heap.size := fun h => by have := HLt.out _ (.inl h); omega
  have HX3 := hid ((hkp3.block _ (by omega) hnF).trans HX2.out)
  have HLB3 := hid hLB3
  have HK3 := hid hkp3
  have HLt3 := hid (C.lt hLB3)
  have HR3 : Hid (Rdw (fun k => ¬ F3 k ∧ (G k ∨ w.heap.size ≤ k)) P w3 a R) := HR2.out.turn hkp3.like.size
    (fun k hk hlt => ⟨⟨fun hf => (hkp3.foot k hf).elim (HG.out k hk) (fun h => by omega), .inl hk⟩, hkp3.block k hlt (HG.out k hk)⟩)
    (fun k hk hlt => ⟨hk, hkp3.block k hlt (HP.out k hk)⟩)
  have HXL3 : Hid (LtR P w3 m.o.x m.ap m.rp) := HXL.out.turn (fun k hk hlt => ⟨hk, hkp3.block k hlt (HP.out k hk)⟩)
  clear hh hLB3 hkp3 x0 x1 x2 HSend HR2 HXL HRg
  go_upto_region 4 with fail
  have q1 : w3.heap[w.heap.size]? = some (.cells m.cells 35 (0, 0)) := HX3.out
  refine wp_region_noPanic ?_
  refine wp_region_held_drew (S := fun W => W.heap[w.heap.size]? = some (.cells m.cells 35 (0, 0))) (by kernel_rfl) q1 (fun hHeld => ?_)
  refine wpAnyH_take (i := 1) (oi := { dst := some 26, op := Op.move (Operand.tmp 1), type := 27, pos := "law.go:53", after := #[], guard := none }) (v := .slice a n c) rfl (by kernel_rfl) (by kernel_rfl) (by kernel_rfl) (fun _ _ _ h => h) (Or.inl ⟨by rfl, fun wS hSw => ?_⟩) (by assumption) ?_
  · clear hHeld
    clear hSw
    go_simp
  try simp only [Act.put, List.setIfInBounds_toArray, List.set_cons_zero, List.set_cons_succ]
  refine wpAnyH_take (i := 3) (oi := { dst := some 28, op := Op.fieldAddr 35 (Operand.tmp 5) 1, type := 0, pos := "law.go:53", after := #[], guard := none }) (v := .pointer (some ⟨w.heap.size, 1, none⟩)) rfl (by kernel_rfl) (by kernel_rfl) (by kernel_rfl) (fun _ _ _ h => h) (Or.inl ⟨by rfl, fun wS hSw => ?_⟩) (by assumption) ?_
  · clear hHeld
    clear hSw
    go_simp
  try simp only [Act.put, List.setIfInBounds_toArray, List.set_cons_zero, List.set_cons_succ]
  refine wpAnyH_take (i := 4) (oi := { dst := some 29, op := Op.load 3 (Operand.tmp 28), type := 3, pos := "law.go:53", after := #[{ on := 3, ground := Ground.data }], guard := none }) (v := .int .i64 m.o.frm) rfl (by kernel_rfl) (by kernel_rfl) (by kernel_rfl) (fun _ _ _ h => h) (Or.inl ⟨by rfl, fun wS hSw => ?_⟩) (by assumption) ?_
  · clear hHeld
    have y1 : wS.cell? ⟨w.heap.size, 1, none⟩ = some (.int .i64 m.o.frm) := cell_of_row wS w.heap.size 1 _ _ _ hSw
    go_simp
  try simp only [Act.put, List.setIfInBounds_toArray, List.set_cons_zero, List.set_cons_succ]
  refine wpAnyH_take (i := 5) (oi := { dst := some 30, op := Op.fieldAddr 35 (Operand.tmp 5) 2, type := 0, pos := "law.go:53", after := #[], guard := none }) (v := .pointer (some ⟨w.heap.size, 2, none⟩)) rfl (by kernel_rfl) (by kernel_rfl) (by kernel_rfl) (fun _ _ _ h => h) (Or.inl ⟨by rfl, fun wS hSw => ?_⟩) (by assumption) ?_
  · clear hHeld
    clear hSw
    go_simp
  try simp only [Act.put, List.setIfInBounds_toArray, List.set_cons_zero, List.set_cons_succ]
  refine wpAnyH_take (i := 6) (oi := { dst := some 31, op := Op.load 3 (Operand.tmp 30), type := 3, pos := "law.go:53", after := #[{ on := 5, ground := Ground.data }], guard := none }) (v := .int .i64 m.o.dst) rfl (by kernel_rfl) (by kernel_rfl) (by kernel_rfl) (fun _ _ _ h => h) (Or.inl ⟨by rfl, fun wS hSw => ?_⟩) (by assumption) ?_
  · clear hHeld
    have y2 : wS.cell? ⟨w.heap.size, 2, none⟩ = some (.int .i64 m.o.dst) := cell_of_row wS w.heap.size 2 _ _ _ hSw
    go_simp
  try simp only [Act.put, List.setIfInBounds_toArray, List.set_cons_zero, List.set_cons_succ]
  refine wpAnyH_take (i := 7) (oi := { dst := some 32, op := Op.fieldAddr 35 (Operand.tmp 5) 3, type := 0, pos := "law.go:53", after := #[], guard := none }) (v := .pointer (some ⟨w.heap.size, 3, none⟩)) rfl (by kernel_rfl) (by kernel_rfl) (by kernel_rfl) (fun _ _ _ h => h) (Or.inl ⟨by rfl, fun wS hSw => ?_⟩) (by assumption) ?_
  · clear hHeld
    clear hSw
    go_simp
  try simp only [Act.put, List.setIfInBounds_toArray, List.set_cons_zero, List.set_cons_succ]
  refine wpAnyH_take (i := 8) (oi := { dst := some 33, op := Op.load 33 (Operand.tmp 32), type := 33, pos := "law.go:53", after := #[{ on := 7, ground := Ground.data }], guard := none }) (v := .agg CL) rfl (by kernel_rfl) (by kernel_rfl) (by kernel_rfl) (fun _ _ _ h => h) (Or.inl ⟨by rfl, fun wS hSw => ?_⟩) (by assumption) ?_
  · clear hHeld
    have y1 := hSw
    exact exec_load_mid _ rfl wS w.heap.size 3 rfl CL hCs (by rw [← HCL.out]; exact op_range y1)
  try simp only [Act.put, List.setIfInBounds_toArray, List.set_cons_zero, List.set_cons_succ]
  refine wpAnyH_take (i := 9) (oi := { dst := some 34, op := Op.build 56 #[(0, Operand.tmp 29), (1, Operand.tmp 31), (2, Operand.tmp 33)], type := 56, pos := "law.go:53", after := #[{ on := 4, ground := Ground.data }, { on := 6, ground := Ground.data }, { on := 8, ground := Ground.data }], guard := none }) (v := .agg (Wm.cells ⟨⟨m.o.frm, m.o.dst, m.o.x⟩, m.ap, m.ac, m.rp, m.rc⟩)) rfl (by kernel_rfl) (by kernel_rfl) (by kernel_rfl) (fun _ _ _ h => h) (Or.inl ⟨by rfl, fun wS hSw => ?_⟩) (by assumption) ?_
  · clear hHeld
    clear hSw
    exact exec_build_w _ _ _ rfl wS m.o.frm m.o.dst m.o.x m.ap m.ac m.rp m.rc rfl rfl (by rw [HCL.out]; rfl)
  try simp only [Act.put, List.setIfInBounds_toArray, List.set_cons_zero, List.set_cons_succ]
  obtain ⟨CW, hCW⟩ : ∃ C, (Wm.cells ⟨⟨m.o.frm, m.o.dst, m.o.x⟩, m.ap, m.ac, m.rp, m.rc⟩) = C := ⟨_, rfl⟩
  have hsW : CW.size = 15 := by rw [← hCW]; rfl
  have HCW := hid hCW
  rw [hCW]
  clear hCW
  have HEnd : Hid (∀ (W : World) (v : Value), Below w3.heap.size w3 W → OwnW w3.heap.size W v (R ++ [⟨⟨m.o.frm, m.o.dst, m.o.x⟩, m.ap, m.ac, m.rp, m.rc⟩]) → ∃ a' R' c' F' R'', (Ending.returned (.tuple #[v, .bool true])) = .returned (.tuple #[.slice a' R'.length c', .bool true]) ∧ Hid (LB W b F' R'' (ways R') ∧ Rdw (fun k => ¬ F' k ∧ (G k ∨ w.heap.size ≤ k)) P W a' R' ∧ (a' = none → c' = 0) ∧ Kp F F' Rr R'' w W ∧ R'.length ≤ n + 1 ∧ ways R' = opV (ways R) m.o ∧ ∀ mm ∈ R', FewL mm.y.x)) := fun W v hb ho => by
    obtain ⟨q, d, rfl⟩ := OwnW.shape ho
    have hlies : ∀ mm ∈ R ++ [⟨⟨m.o.frm, m.o.dst, m.o.x⟩, m.ap, m.ac, m.rp, m.rc⟩], LtR P W mm.y.x mm.ap mm.rp := by
      intro mm hmm
      rcases List.mem_append.1 hmm with hmm | hmm
      · exact (HR3.out.lies mm hmm).below hb (Nat.le_refl _)
      · rw [List.mem_singleton.1 hmm]; exact HXL3.out.below hb (Nat.le_refl _)
    have hrd := OwnW.rdw (P := P) ho hlies
    refine ⟨q, _, d, F3, R3, rfl, ?_, ?_, ?_, ?_, ?_, ?_, ?_⟩
    · have e : ways (R ++ [⟨⟨m.o.frm, m.o.dst, m.o.x⟩, m.ap, m.ac, m.rp, m.rc⟩]) = ways R ++ [⟨m.o.frm, m.o.dst, m.o.x⟩] := by simp [ways]
      rw [e]
      exact C.keep HLB3.out (fun k hk => hb.block k (HLt3.out k hk)) hb.size
    · exact hrd.turn (Nat.le_refl _) (fun k hk _ => ⟨⟨fun hf => by have := HLt3.out k (.inl hf); omega, .inr (by omega)⟩, rfl⟩) (fun k hk _ => ⟨hk, rfl⟩)
    · intro hq
      subst hq
      rcases ho.2 with ⟨h1, _⟩ | ⟨g, cap, cur, h1, _⟩
      · injection h1
      · cases h1
    · exact (Kp.of_below (F := F) (R := Rr) HB2.out (Nat.le_refl _)).trans (HK3.out.trans (Kp.of_below hb (Nat.le_refl _)))
    · simp only [List.length_append, List.length_cons, List.length_nil]; have := HN.out; omega
    · unfold opV
      rw [if_pos HK.out]
      simp [ways]
    · intro mm hmm
      rcases List.mem_append.1 hmm with hmm | hmm
      · exact HWf.out mm hmm
      · rw [List.mem_singleton.1 hmm]; exact HFl.out.1
  have HXk : Hid (∀ W : World, Below w3.heap.size w3 W → W.heap[w.heap.size]? = some (.cells m.cells 35 (0, 0))) := fun W hb => (hb.block _ (by omega)).trans HX3.out
  have HRk : Hid (∀ W : World, Below w3.heap.size w3 W → Rdw (fun k => ¬ F3 k ∧ (G k ∨ w.heap.size ≤ k)) P W a R) := fun W hb => HR3.out.below hb
  have HAc := hid hac
  have HL := hid hl
  clear HB2 HX2 HLt HLB2 HG HP HLB3 HK3 HLt3 HR3 HXL3 HX3 hac hl
  have hbd : Below w3.heap.size w3 w3.drew := (Below.refl _ _).drew
  refine wpAnyH_ready (rs := [0, 10]) (by kernel_rfl) (by simp) ?_
  refine AllReadyH.cons (o := { dst := some 25, op := Op.buildSlice 27 0 #[], type := 27, pos := "law.go:53", after := #[], guard := none }) rfl (fun K hK => ?_) (AllReadyH.cons (o := { dst := some 35, op := Op.buildSlice 27 1 #[(0, Operand.tmp 34)], type := 27, pos := "law.go:53", after := #[{ on := 9, ground := Ground.data }], guard := none }) rfl (fun K hK => ?_) AllReadyH.nil)
  · -- the empty row first
    clear hHeld
    refine wp_bslice0 rfl ?_
    have hb4 := hbd.trans ((below_alloc w3.drew (.cells #[] 56)).mono hbd.size)
    have ho4 := own_empty w3.drew w3.heap.size hbd.size
    obtain ⟨W4, hW4⟩ : ∃ W, w3.drew.alloc (.cells #[] 56) = W := ⟨_, rfl⟩
    obtain ⟨e4, he4⟩ : ∃ e, w3.drew.heap.size = e := ⟨_, rfl⟩
    rw [hW4] at hb4 ho4
    rw [he4] at ho4
    rw [hW4, he4]
    refine hK.out _ _ (HXk.out _ hb4) (fun hHeld => ?_)
    clear hK K hW4 he4
    try simp only [Act.put, List.setIfInBounds_toArray, List.set_cons_zero, List.set_cons_succ]
    refine wpAnyH_ready (rs := [2, 10]) (by kernel_rfl) (by simp) ?_
    refine AllReadyH.cons (o := { dst := some 27, op := Op.call { callee := Callee.builtin Builtin.append, args := #[Operand.tmp 25, Operand.tmp 26], argTypes := #[27, 27] }, type := 27, pos := "law.go:53", after := #[{ on := 0, ground := Ground.data }, { on := 1, ground := Ground.data }], guard := none }) rfl (fun K hK => ?_) (AllReadyH.cons (o := { dst := some 35, op := Op.buildSlice 27 1 #[(0, Operand.tmp 34)], type := 27, pos := "law.go:53", after := #[{ on := 9, ground := Ground.data }], guard := none }) rfl (fun K hK => ?_) AllReadyH.nil)
    · -- then the copy
      clear hHeld
      obtain ⟨v5, W5, hrun5, ho5, hb5', hbk5⟩ := OwnW.copy ho4 hb4.size (HRk.out _ hb4) HAc.out (Nat.zero_le _) (by have := HL.out; omega)
      rw [List.nil_append] at ho5
      rw [HN.out] at hrun5
      obtain ⟨q5, d5, rfl⟩ := OwnW.shape ho5
      have hb5 := hb4.trans hb5'
      have HR5 := hid hrun5
      refine wp_append_runs _ _ 27 27 rfl (.slice (some ⟨e4, 0, none⟩) 0 0) (.slice a n c) (.slice q5 R.length d5) W5 rfl rfl HR5.out ?_
      refine hK.out _ _ (HXk.out _ hb5) (fun hHeld => ?_)
      clear hK K
      try simp only [Act.put, List.setIfInBounds_toArray, List.set_cons_zero, List.set_cons_succ]
      refine wpAnyH_ready (rs := [10]) (by kernel_rfl) (by simp) ?_
      refine AllReadyH.cons (o := { dst := some 35, op := Op.buildSlice 27 1 #[(0, Operand.tmp 34)], type := 27, pos := "law.go:53", after := #[{ on := 9, ground := Ground.data }], guard := none }) rfl (fun K hK => ?_) AllReadyH.nil
      have hown6 := owns_below ho5 (below_alloc W5 (.cells CW 56))
      clear hHeld
      refine wp_bsliceW _ rfl CW rfl hsW ?_
      have hb6 := hb5.trans ((below_alloc W5 (.cells CW 56)).mono hb5.size)
      have hc6 := heap_alloc_new W5 (.cells CW 56)
      obtain ⟨W6, hW6⟩ : ∃ W, W5.alloc (.cells CW 56) = W := ⟨_, rfl⟩
      obtain ⟨nb6, hnb6⟩ : ∃ e, W5.heap.size = e := ⟨_, rfl⟩
      rw [hW6] at hb6 hc6
      rw [hnb6] at hc6
      rw [← HCW.out] at hc6
      rw [hW6, hnb6]
      refine hK.out _ _ (HXk.out _ hb6) (fun hHeld => ?_)
      clear hK K
      try simp only [Act.put, List.setIfInBounds_toArray, List.set_cons_zero, List.set_cons_succ]
      rw [hW6] at hown6
      obtain ⟨v9, W9, hrun9, ho9, hb9⟩ := OwnW.pushAt hown6 hb6.size ⟨⟨m.o.frm, m.o.dst, m.o.x⟩, m.ap, m.ac, m.rp, m.rc⟩ nb6 hc6 (by have := HL.out; omega)
      have hbb := hb6.trans hb9
      have HF := hid (HEnd.out W9 v9 hbb ho9)
      have HR9 := hid hrun9
      obtain ⟨q9, d9, rfl⟩ := OwnW.shape ho9
      generalize (R ++ [(⟨⟨m.o.frm, m.o.dst, m.o.x⟩, m.ap, m.ac, m.rp, m.rc⟩ : Wm)]).length = n9 at *
      refine wpAnyH_ready (rs := [11]) (by kernel_rfl) (by simp) ?_
      refine AllReadyH.cons (o := { dst := some 36, op := Op.call { callee := Callee.builtin Builtin.append, args := #[Operand.tmp 27, Operand.tmp 35], argTypes := #[27, 27] }, type := 27, pos := "law.go:53", after := #[{ on := 2, ground := Ground.data }, { on := 10, ground := Ground.data }, { on := 2, ground := Ground.chain }], guard := none }) rfl (fun K hK => ?_) AllReadyH.nil
      clear hHeld
      refine wp_append_runs _ _ 27 27 rfl (.slice q5 R.length d5) (.slice (some ⟨nb6, 0, none⟩) 1 1) (.slice q9 n9 d9) W9 rfl rfl HR9.out ?_
      refine hK.out _ _ (HXk.out _ hbb) (fun hHeld => ?_)
      clear hK K
      try simp only [Act.put, List.setIfInBounds_toArray, List.set_cons_zero, List.set_cons_succ]
      refine wpAnyH_ready (rs := [12]) (by kernel_rfl) (by simp) ?_
      refine AllReadyH.cons (o := { dst := some 6, op := Op.assign (Operand.tmp 36), type := 27, pos := "law.go:53", after := #[{ on := 11, ground := Ground.data }, { on := 11, ground := Ground.chain }, { on := 0, ground := Ground.phase }, { on := 1, ground := Ground.phase }, { on := 2, ground := Ground.phase }, { on := 3, ground := Ground.phase }, { on := 4, ground := Ground.phase }, { on := 5, ground := Ground.phase }, { on := 6, ground := Ground.phase }, { on := 7, ground := Ground.phase }, { on := 8, ground := Ground.phase }, { on := 9, ground := Ground.phase }, { on := 10, ground := Ground.phase }, { on := 11, ground := Ground.phase }], guard := none }) rfl (fun K hK => ?_) AllReadyH.nil
      clear hHeld
      go_simp
      refine hK.out _ _ (HXk.out _ hbb) (fun hHeld => ?_)
      clear hK K
      try simp only [Act.put, List.setIfInBounds_toArray, List.set_cons_zero, List.set_cons_succ]
      refine wpAnyH_take (i := 13) (oi := { dst := some 7, op := Op.assign (Operand.const (Value.bool true)), type := 4, pos := "law.go:53", after := #[{ on := 12, ground := Ground.chain }, { on := 0, ground := Ground.phase }, { on := 1, ground := Ground.phase }, { on := 2, ground := Ground.phase }, { on := 3, ground := Ground.phase }, { on := 4, ground := Ground.phase }, { on := 5, ground := Ground.phase }, { on := 6, ground := Ground.phase }, { on := 7, ground := Ground.phase }, { on := 8, ground := Ground.phase }, { on := 9, ground := Ground.phase }, { on := 10, ground := Ground.phase }, { on := 11, ground := Ground.phase }, { on := 12, ground := Ground.phase }], guard := none }) (v := .bool true) rfl (by kernel_rfl) (by kernel_rfl) (by kernel_rfl) (fun _ _ _ h => h) (Or.inl ⟨by rfl, fun wS hSw => ?_⟩) (by assumption) ?_
      · clear hHeld
        clear hSw
        go_simp
      try simp only [Act.put, List.setIfInBounds_toArray, List.set_cons_zero, List.set_cons_succ]
      clear hHeld
      refine wpAnyH_done (by kernel_rfl) ?_ _
      refine NoPanic.normal ?_
      go_wp2_with fail
      go_ret2
      exact HF.out
    · -- then the letter
      have hown5 := owns_below ho4 (below_alloc W4 (.cells CW 56))
      clear hHeld
      refine wp_bsliceW _ rfl CW rfl hsW ?_
      have hb6 := hb4.trans ((below_alloc W4 (.cells CW 56)).mono hb4.size)
      have hc6 := heap_alloc_new W4 (.cells CW 56)
      obtain ⟨W6, hW6⟩ : ∃ W, W4.alloc (.cells CW 56) = W := ⟨_, rfl⟩
      obtain ⟨nb6, hnb6⟩ : ∃ e, W4.heap.size = e := ⟨_, rfl⟩
      rw [hW6] at hb6 hc6
      rw [hnb6] at hc6
      rw [← HCW.out] at hc6
      rw [hW6, hnb6]
      refine hK.out _ _ (HXk.out _ hb6) (fun hHeld => ?_)
      clear hK K
      try simp only [Act.put, List.setIfInBounds_toArray, List.set_cons_zero, List.set_cons_succ]
      rw [hW6] at hown5
      refine wpAnyH_ready (rs := [2]) (by kernel_rfl) (by simp) ?_
      refine AllReadyH.cons (o := { dst := some 27, op := Op.call { callee := Callee.builtin Builtin.append, args := #[Operand.tmp 25, Operand.tmp 26], argTypes := #[27, 27] }, type := 27, pos := "law.go:53", after := #[{ on := 0, ground := Ground.data }, { on := 1, ground := Ground.data }], guard := none }) rfl (fun K hK => ?_) AllReadyH.nil
      clear hHeld
      obtain ⟨v5, W5, hrun5, ho5, hb5', hbk5⟩ := OwnW.copy hown5 hb6.size (HRk.out _ hb6) HAc.out (Nat.zero_le _) (by have := HL.out; omega)
      rw [List.nil_append] at ho5
      rw [HN.out] at hrun5
      obtain ⟨q5, d5, rfl⟩ := OwnW.shape ho5
      have hb5 := hb6.trans hb5'
      have HR5 := hid hrun5
      refine wp_append_runs _ _ 27 27 rfl (.slice (some ⟨e4, 0, none⟩) 0 0) (.slice a n c) (.slice q5 R.length d5) W5 rfl rfl HR5.out ?_
      refine hK.out _ _ (HXk.out _ hb5) (fun hHeld => ?_)
      clear hK K
      try simp only [Act.put, List.setIfInBounds_toArray, List.set_cons_zero, List.set_cons_succ]
      have hc7 := (hbk5 nb6 (Array.getElem?_eq_some_iff.1 hc6).1 (fun e => by have h1 := (World.ownsRow.lt ho4 e4 rfl).2; have h2 : nb6 = e4 := Option.some.inj e; omega)).trans hc6
      obtain ⟨v9, W9, hrun9, ho9, hb9⟩ := OwnW.pushAt ho5 hb5.size ⟨⟨m.o.frm, m.o.dst, m.o.x⟩, m.ap, m.ac, m.rp, m.rc⟩ nb6 hc7 (by have := HL.out; omega)
      have hbb := hb5.trans hb9
      have HF := hid (HEnd.out W9 v9 hbb ho9)
      have HR9 := hid hrun9
      obtain ⟨q9, d9, rfl⟩ := OwnW.shape ho9
      generalize (R ++ [(⟨⟨m.o.frm, m.o.dst, m.o.x⟩, m.ap, m.ac, m.rp, m.rc⟩ : Wm)]).length = n9 at *
      refine wpAnyH_ready (rs := [11]) (by kernel_rfl) (by simp) ?_
      refine AllReadyH.cons (o := { dst := some 36, op := Op.call { callee := Callee.builtin Builtin.append, args := #[Operand.tmp 27, Operand.tmp 35], argTypes := #[27, 27] }, type := 27, pos := "law.go:53", after := #[{ on := 2, ground := Ground.data }, { on := 10, ground := Ground.data }, { on := 2, ground := Ground.chain }], guard := none }) rfl (fun K hK => ?_) AllReadyH.nil
      clear hHeld
      refine wp_append_runs _ _ 27 27 rfl (.slice q5 R.length d5) (.slice (some ⟨nb6, 0, none⟩) 1 1) (.slice q9 n9 d9) W9 rfl rfl HR9.out ?_
      refine hK.out _ _ (HXk.out _ hbb) (fun hHeld => ?_)
      clear hK K
      try simp only [Act.put, List.setIfInBounds_toArray, List.set_cons_zero, List.set_cons_succ]
      refine wpAnyH_ready (rs := [12]) (by kernel_rfl) (by simp) ?_
      refine AllReadyH.cons (o := { dst := some 6, op := Op.assign (Operand.tmp 36), type := 27, pos := "law.go:53", after := #[{ on := 11, ground := Ground.data }, { on := 11, ground := Ground.chain }, { on := 0, ground := Ground.phase }, { on := 1, ground := Ground.phase }, { on := 2, ground := Ground.phase }, { on := 3, ground := Ground.phase }, { on := 4, ground := Ground.phase }, { on := 5, ground := Ground.phase }, { on := 6, ground := Ground.phase }, { on := 7, ground := Ground.phase }, { on := 8, ground := Ground.phase }, { on := 9, ground := Ground.phase }, { on := 10, ground := Ground.phase }, { on := 11, ground := Ground.phase }], guard := none }) rfl (fun K hK => ?_) AllReadyH.nil
      clear hHeld
      go_simp
      refine hK.out _ _ (HXk.out _ hbb) (fun hHeld => ?_)
      clear hK K
      try simp only [Act.put, List.setIfInBounds_toArray, List.set_cons_zero, List.set_cons_succ]
      refine wpAnyH_take (i := 13) (oi := { dst := some 7, op := Op.assign (Operand.const (Value.bool true)), type := 4, pos := "law.go:53", after := #[{ on := 12, ground := Ground.chain }, { on := 0, ground := Ground.phase }, { on := 1, ground := Ground.phase }, { on := 2, ground := Ground.phase }, { on := 3, ground := Ground.phase }, { on := 4, ground := Ground.phase }, { on := 5, ground := Ground.phase }, { on := 6, ground := Ground.phase }, { on := 7, ground := Ground.phase }, { on := 8, ground := Ground.phase }, { on := 9, ground := Ground.phase }, { on := 10, ground := Ground.phase }, { on := 11, ground := Ground.phase }, { on := 12, ground := Ground.phase }], guard := none }) (v := .bool true) rfl (by kernel_rfl) (by kernel_rfl) (by kernel_rfl) (fun _ _ _ h => h) (Or.inl ⟨by rfl, fun wS hSw => ?_⟩) (by assumption) ?_
      · clear hHeld
        clear hSw
        go_simp
      try simp only [Act.put, List.setIfInBounds_toArray, List.set_cons_zero, List.set_cons_succ]
      clear hHeld
      refine wpAnyH_done (by kernel_rfl) ?_ _
      refine NoPanic.normal ?_
      go_wp2_with fail
      go_ret2
      exact HF.out
  · -- the letter first
    clear hHeld
    refine wp_bsliceW _ rfl CW rfl hsW ?_
    have hb6 := hbd.trans ((below_alloc w3.drew (.cells CW 56)).mono hbd.size)
    have hc6 := heap_alloc_new w3.drew (.cells CW 56)
    obtain ⟨W6, hW6⟩ : ∃ W, w3.drew.alloc (.cells CW 56) = W := ⟨_, rfl⟩
    obtain ⟨nb6, hnb6⟩ : ∃ e, w3.drew.heap.size = e := ⟨_, rfl⟩
    rw [hW6] at hb6 hc6
    rw [hnb6] at hc6
    rw [← HCW.out] at hc6
    rw [hW6, hnb6]
    refine hK.out _ _ (HXk.out _ hb6) (fun hHeld => ?_)
    clear hK K
    try simp only [Act.put, List.setIfInBounds_toArray, List.set_cons_zero, List.set_cons_succ]
    refine wpAnyH_ready (rs := [0]) (by kernel_rfl) (by simp) ?_
    refine AllReadyH.cons (o := { dst := some 25, op := Op.buildSlice 27 0 #[], type := 27, pos := "law.go:53", after := #[], guard := none }) rfl (fun K hK => ?_) AllReadyH.nil
    clear hHeld
    refine wp_bslice0 rfl ?_
    have hb4 := hb6.trans ((below_alloc W6 (.cells #[] 56)).mono hb6.size)
    have ho4 := own_empty W6 w3.heap.size hb6.size
    have hc4 := ((below_alloc W6 (.cells #[] 56)).block nb6 (Array.getElem?_eq_some_iff.1 hc6).1).trans hc6
    obtain ⟨W4, hW4⟩ : ∃ W, W6.alloc (.cells #[] 56) = W := ⟨_, rfl⟩
    obtain ⟨e4, he4⟩ : ∃ e, W6.heap.size = e := ⟨_, rfl⟩
    rw [hW4] at hb4 ho4 hc4
    rw [he4] at ho4
    rw [hW4, he4]
    refine hK.out _ _ (HXk.out _ hb4) (fun hHeld => ?_)
    clear hK K hW4
    try simp only [Act.put, List.setIfInBounds_toArray, List.set_cons_zero, List.set_cons_succ]
    refine wpAnyH_ready (rs := [2]) (by kernel_rfl) (by simp) ?_
    refine AllReadyH.cons (o := { dst := some 27, op := Op.call { callee := Callee.builtin Builtin.append, args := #[Operand.tmp 25, Operand.tmp 26], argTypes := #[27, 27] }, type := 27, pos := "law.go:53", after := #[{ on := 0, ground := Ground.data }, { on := 1, ground := Ground.data }], guard := none }) rfl (fun K hK => ?_) AllReadyH.nil
    clear hHeld
    obtain ⟨v5, W5, hrun5, ho5, hb5', hbk5⟩ := OwnW.copy ho4 hb4.size (HRk.out _ hb4) HAc.out (Nat.zero_le _) (by have := HL.out; omega)
    rw [List.nil_append] at ho5
    rw [HN.out] at hrun5
    obtain ⟨q5, d5, rfl⟩ := OwnW.shape ho5
    have hb5 := hb4.trans hb5'
    have HR5 := hid hrun5
    refine wp_append_runs _ _ 27 27 rfl (.slice (some ⟨e4, 0, none⟩) 0 0) (.slice a n c) (.slice q5 R.length d5) W5 rfl rfl HR5.out ?_
    refine hK.out _ _ (HXk.out _ hb5) (fun hHeld => ?_)
    clear hK K
    try simp only [Act.put, List.setIfInBounds_toArray, List.set_cons_zero, List.set_cons_succ]
    have hc7 := (hbk5 nb6 (Array.getElem?_eq_some_iff.1 hc4).1 (fun e => by have h1 := (Array.getElem?_eq_some_iff.1 hc6).1; have h2 : nb6 = e4 := Option.some.inj e; omega)).trans hc4
    obtain ⟨v9, W9, hrun9, ho9, hb9⟩ := OwnW.pushAt ho5 hb5.size ⟨⟨m.o.frm, m.o.dst, m.o.x⟩, m.ap, m.ac, m.rp, m.rc⟩ nb6 hc7 (by have := HL.out; omega)
    have hbb := hb5.trans hb9
    have HF := hid (HEnd.out W9 v9 hbb ho9)
    have HR9 := hid hrun9
    obtain ⟨q9, d9, rfl⟩ := OwnW.shape ho9
    generalize (R ++ [(⟨⟨m.o.frm, m.o.dst, m.o.x⟩, m.ap, m.ac, m.rp, m.rc⟩ : Wm)]).length = n9 at *
    refine wpAnyH_ready (rs := [11]) (by kernel_rfl) (by simp) ?_
    refine AllReadyH.cons (o := { dst := some 36, op := Op.call { callee := Callee.builtin Builtin.append, args := #[Operand.tmp 27, Operand.tmp 35], argTypes := #[27, 27] }, type := 27, pos := "law.go:53", after := #[{ on := 2, ground := Ground.data }, { on := 10, ground := Ground.data }, { on := 2, ground := Ground.chain }], guard := none }) rfl (fun K hK => ?_) AllReadyH.nil
    clear hHeld
    refine wp_append_runs _ _ 27 27 rfl (.slice q5 R.length d5) (.slice (some ⟨nb6, 0, none⟩) 1 1) (.slice q9 n9 d9) W9 rfl rfl HR9.out ?_
    refine hK.out _ _ (HXk.out _ hbb) (fun hHeld => ?_)
    clear hK K
    try simp only [Act.put, List.setIfInBounds_toArray, List.set_cons_zero, List.set_cons_succ]
    refine wpAnyH_ready (rs := [12]) (by kernel_rfl) (by simp) ?_
    refine AllReadyH.cons (o := { dst := some 6, op := Op.assign (Operand.tmp 36), type := 27, pos := "law.go:53", after := #[{ on := 11, ground := Ground.data }, { on := 11, ground := Ground.chain }, { on := 0, ground := Ground.phase }, { on := 1, ground := Ground.phase }, { on := 2, ground := Ground.phase }, { on := 3, ground := Ground.phase }, { on := 4, ground := Ground.phase }, { on := 5, ground := Ground.phase }, { on := 6, ground := Ground.phase }, { on := 7, ground := Ground.phase }, { on := 8, ground := Ground.phase }, { on := 9, ground := Ground.phase }, { on := 10, ground := Ground.phase }, { on := 11, ground := Ground.phase }], guard := none }) rfl (fun K hK => ?_) AllReadyH.nil
    clear hHeld
    go_simp
    refine hK.out _ _ (HXk.out _ hbb) (fun hHeld => ?_)
    clear hK K
    try simp only [Act.put, List.setIfInBounds_toArray, List.set_cons_zero, List.set_cons_succ]
    refine wpAnyH_take (i := 13) (oi := { dst := some 7, op := Op.assign (Operand.const (Value.bool true)), type := 4, pos := "law.go:53", after := #[{ on := 12, ground := Ground.chain }, { on := 0, ground := Ground.phase }, { on := 1, ground := Ground.phase }, { on := 2, ground := Ground.phase }, { on := 3, ground := Ground.phase }, { on := 4, ground := Ground.phase }, { on := 5, ground := Ground.phase }, { on := 6, ground := Ground.phase }, { on := 7, ground := Ground.phase }, { on := 8, ground := Ground.phase }, { on := 9, ground := Ground.phase }, { on := 10, ground := Ground.phase }, { on := 11, ground := Ground.phase }, { on := 12, ground := Ground.phase }], guard := none }) (v := .bool true) rfl (by kernel_rfl) (by kernel_rfl) (by kernel_rfl) (fun _ _ _ h => h) (Or.inl ⟨by rfl, fun wS hSw => ?_⟩) (by assumption) ?_
    · clear hHeld
      clear hSw
      go_simp
    try simp only [Act.put, List.setIfInBounds_toArray, List.set_cons_zero, List.set_cons_succ]
    clear hHeld
    refine wpAnyH_done (by kernel_rfl) ?_ _
    refine NoPanic.normal ?_
    go_wp2_with fail
    go_ret2
    exact HF.out
end Go.Proofs.Ytjcfbnhmljlkpaa
