/- VpL. -/
import Derived.Deep.RegionLaw
import Derived.Test.YtbfllifgmlkndaaGreatDoorM37
namespace Go.Proofs.YtbfllifgmlkndaaGreatDoor
open Go.RowKit Go.Shelf
open Slot
attribute [local go_sem] Oper.semAt_some

/-- the answers ahead of the loop -/
def ans1 (v : Vw) (Z : Bool) : List Pk := if Z = true then [tellV v 2] else []
def AnsP (v : Vw) (p : Pk) (Z : Bool) (w : World) (e : Ending) (w' : World) : Prop :=
  ∃ a, e = .returned a ∧ OwnP w.heap.size w' a (ans1 v Z ++ (match beatV v p top 0 with
    | some o => [updV v o]
    | none => [])) ∧ Below w.heap.size w w'
set_option maxHeartbeats 1500000 in
set_option maxRecDepth 100000 in
theorem answers_core (b f : Nat) (v : Vw) (p : Pk) (KD : Int) (Z : Bool) (w : World) (hV : VB w b v) (hk : p.kind = KD) (hf : p.frm = (f : Int)) (hZ : Z = (KD == 1 || KD == 4)) (ho : ∀ s, v.own s ≤ 64) (hf64 : f < 64)
    (hTl : ∀ W, VB W b v → Calls Tryz.prog 75 #[.pointer (some ⟨b, 0, none⟩), .int .i64 2] W fun e w' => e = .returned (.agg (pkCells (tellV v 2))) ∧ Below W.heap.size W w')
    (hUp : ∀ W (m : Nat), m < 64 → VB W b v → Calls Tryz.prog 89 #[.pointer (some ⟨b, 0, none⟩), .int .i64 (m : Int)] W fun e w' => e = .returned (.agg (pkCells (updV v m))) ∧ Below W.heap.size W w') :
    Calls Tryz.prog 72 #[.pointer (some ⟨b, 0, none⟩), .agg (pkCells p)] w (AnsP v p Z w) := by
  have hw := hV.lt
  have HA0 := hid (an_new w b v p hV)
  have HTl := hid hTl
  have HUp := hid hUp
  have HW := hid hw
  have HO := hid ho
  have HF := hid hf64
  have HZ := hid hZ
  have HSo := hid (fun W => slotsof_any p.cl W)
  have iC := infoBl (S := p.cl)
  have HRg : Hid (∀ W c, PBox W c p → W.rangeAt c 5 (cellsOf p.cl).toList) := fun W c h => h.range
  obtain ⟨CS, hCS⟩ : ∃ C, cellsOf p.cl = C := ⟨_, rfl⟩
  rw [hCS] at HSo iC HRg
  obtain ⟨PC, hPC⟩ : ∃ C, pkCells p = C := ⟨_, rfl⟩
  have HCS := hid hCS
  obtain ⟨PQ, hPQ⟩ : ∃ C, pkCells (tellV v 2) = C := ⟨_, rfl⟩
  have hPQs : PQ.size = 261 := by rw [← hPQ]; exact pkCells_size _
  have HPQ : Hid (∀ W : World, PBox (W.alloc (.cells PQ 53)) W.heap.size (tellV v 2)) := fun W => by rw [← hPQ]; exact pbox_new W _
  rw [hPQ] at HTl
  rw [hPC] at HA0 ⊢
  clear hV hw ho hf64 hZ hTl hUp hCS hPC hPQ
  refine (callsIn_wide (n := 3)).1 ?_
  refine callsIn_of_wp_marks Tryz.func72 rfl trivial ?_ rfl
  simp only [Tryz.ntmps72, List.size_toArray, List.length_cons, List.length_nil, Nat.reduceAdd, Nat.reduceSub, Array.replicate_succ, Array.replicate_zero, List.push_toArray, List.append_toArray, List.nil_append, List.cons_append]
  refine wpIn_wide.2 ?_
  go_upto_region 2 with fail
  generalize ((((w.alloc (.cells #[.pointer (some ⟨b, 0, none⟩)] 50)).alloc (.cells PC 53)).alloc (.cells #[.slice none 0 0] 103)).alloc (.cells #[.slice none 0 0] 103)) = w4 at *
  obtain ⟨p0, p1, p2, p3, p4⟩ := HA0.out.p1.cells
  rw [hk] at p0
  go_cut [15] from 8 to 15 (fun c15 wx => c15 = .bool Z ∧ wx = w4)
  case first =>
    by_cases k1 : KD = 1
    · have k1b : (KD == 1) = true := by rw [k1]; rfl
      have HZ1 : Hid (Z = true) := by show _ = _; rw [HZ.out, k1b]; rfl
      clear k1
      go_wp2_with fail
      go_meet
      exact ⟨by rw [HZ1.out], rfl⟩
    · have k1b : (KD == 1) = false := beq_eq_false_iff_ne.2 k1
      by_cases k4 : KD = 4
      · have k4b : (KD == 4) = true := by rw [k4]; rfl
        have HZ1 : Hid (Z = true) := by show _ = _; rw [HZ.out, k1b, k4b]; rfl
        clear k1 k4
        go_wp2_with fail
        go_meet
        exact ⟨by rw [HZ1.out], rfl⟩
      · have k4b : (KD == 4) = false := beq_eq_false_iff_ne.2 k4
        have HZ1 : Hid (Z = false) := by show _ = _; rw [HZ.out, k1b, k4b]; rfl
        clear k1 k4
        go_wp2_with fail
        go_meet
        exact ⟨by rw [HZ1.out], rfl⟩
  case rest =>
  obtain ⟨rfl, rfl⟩ := hcut
  clear p0 p1 p2 p3 p4
  generalize wc = w4 at *
  go_upto_if 15 with fail
  go_cut [] from 16 to 20 (fun wx => ∃ vl, Hid (An w wx b v p (.slice none 0 0) vl) ∧ Hid (OwnP (w.heap.size + 4) wx vl (ans1 v Z)))
  case first =>
    cases Z with
    | false =>
      go_wp2_with fail
      go_meet
      exact ⟨_, HA0.out, ownp_nil _ _⟩
    | true =>
      have HA1 := hid HA0.out.drew
      have HTl1 := hid (HTl.out _ HA1.out.vb)
      obtain ⟨c0, c2, c3, f2, f3⟩ := HA1.out.cells
      go_upto_region 3 with fail
      refine wp_region_noPanic ?_
      refine wp_region_held_drew (S := fun W => W.cell? ⟨w.heap.size, 0, none⟩ = some (.pointer (some ⟨b, 0, none⟩))) (by kernel_rfl) c0 (fun hHeld => ?_)
      refine wpAnyH_take (i := 1) (oi := { dst := some 17, op := Op.load 50 (Operand.tmp 2), type := 50, pos := "view.go:192", after := #[], guard := none }) (v := .pointer (some ⟨b, 0, none⟩)) rfl (by kernel_rfl) (by kernel_rfl) (by kernel_rfl) (fun _ _ _ h => h) (Or.inl ⟨by rfl, fun wS hSw => ?_⟩) (by assumption) ?_
      · clear hHeld
        have s0 : wS.cell? ⟨w.heap.size, 0, none⟩ = some (.pointer (some ⟨b, 0, none⟩)) := hSw
        go_simp
      try simp only [Act.put, List.setIfInBounds_toArray, List.set_cons_zero, List.set_cons_succ]
      refine wpAnyH_ready (rs := [0, 2]) (by kernel_rfl) (by simp) ?_
      refine AllReadyH.cons (o := { dst := some 16, op := Op.load 103 (Operand.tmp 5), type := 103, pos := "view.go:192", after := #[], guard := none }) rfl (fun K hK => ?_) (AllReadyH.cons (o := { dst := some 18, op := Op.call { callee := Callee.value (Operand.func 75), args := #[Operand.tmp 17, Operand.const (Value.int IntKind.i64 2)], argTypes := #[50, 3] }, type := 53, pos := "view.go:192", after := #[{ on := 1, ground := Ground.data }], guard := none }) rfl (fun K hK => ?_) AllReadyH.nil)
      · clear hHeld
        go_simp
        refine hK.out _ _ c0 (fun hHeld => ?_)
        clear hK K
        try simp only [Act.put, List.setIfInBounds_toArray, List.set_cons_zero, List.set_cons_succ]
        refine wpAnyH_ready (rs := [2]) (by kernel_rfl) (by simp) ?_
        refine AllReadyH.cons (o := { dst := some 18, op := Op.call { callee := Callee.value (Operand.func 75), args := #[Operand.tmp 17, Operand.const (Value.int IntKind.i64 2)], argTypes := #[50, 3] }, type := 53, pos := "view.go:192", after := #[{ on := 1, ground := Ground.data }], guard := none }) rfl (fun K hK => ?_) AllReadyH.nil
        clear hHeld
        go_simp
        refine HTl1.out.mono ?_; rintro e w5 ⟨rfl, hb5⟩
        have HA5 := hid (HA1.out.call HW.out hb5)
        obtain ⟨d0, d2, d3, g2, g3⟩ := HA5.out.cells
        have HA6 := hid (HA5.out.call HW.out (below_alloc w5 (.cells PQ 53)))
        obtain ⟨x0, x2, x3, y2, y3⟩ := HA6.out.cells
        obtain ⟨v', W', hr, hop, hbl⟩ := ownp_push (ownp_nil (w.heap.size + 4) (w5.alloc (.cells PQ 53))) (tellV v 2) w5.heap.size (HPQ.out w5) (by have := HA5.out.lt; rw [World.size_alloc]; omega) (by simp)
        obtain ⟨a', c', rfl, -, -⟩ := hop.shape
        have HA7 := hid (HA6.out.fresh HW.out hbl)
        have HR := hid hr
        have HO7 := hid hop
        obtain ⟨q0, q2, q3, r2, r3⟩ := HA7.out.cells
        clear hb5 hr hop hbl
        go_wp2_with fail
        refine hK.out _ _ d0 (fun hHeld => ?_)
        clear hK K
        try simp only [Act.put, List.setIfInBounds_toArray, List.set_cons_zero, List.set_cons_succ]
        refine wpAnyH_ready (rs := [3]) (by kernel_rfl) (by simp) ?_
        refine AllReadyH.cons (o := { dst := some 19, op := Op.buildSlice 103 1 #[(0, Operand.tmp 18)], type := 103, pos := "view.go:192", after := #[{ on := 2, ground := Ground.data }], guard := none }) rfl (fun K hK => ?_) AllReadyH.nil
        rw [if_pos (by rfl)]
        refine wp_bslice _ rfl PQ rfl hPQs ?_
        refine hK.out _ _ x0 (fun hHeld => ?_)
        clear hK K
        try simp only [Act.put, List.setIfInBounds_toArray, List.set_cons_zero, List.set_cons_succ]
        refine wpAnyH_ready (rs := [4]) (by kernel_rfl) (by simp) ?_
        refine AllReadyH.cons (o := { dst := some 20, op := Op.call { callee := Callee.builtin Builtin.append, args := #[Operand.tmp 16, Operand.tmp 19], argTypes := #[103, 103] }, type := 103, pos := "view.go:192", after := #[{ on := 0, ground := Ground.data }, { on := 3, ground := Ground.data }, { on := 2, ground := Ground.chain }], guard := none }) rfl (fun K hK => ?_) AllReadyH.nil
        rw [if_pos (by rfl)]
        refine wp_app _ _ 103 rfl _ _ rfl rfl HR.out ?_
        refine hK.out _ _ q0 (fun hHeld => ?_)
        clear hK K
        try simp only [Act.put, List.setIfInBounds_toArray, List.set_cons_zero, List.set_cons_succ]
        refine wpAnyH_ready (rs := [5]) (by kernel_rfl) (by simp) ?_
        refine AllReadyH.cons (o := { dst := none, op := Op.store 103 (Operand.tmp 5) (Operand.tmp 20), type := 0, pos := "view.go:192", after := #[{ on := 4, ground := Ground.data }, { on := 4, ground := Ground.chain }, { on := 0, ground := Ground.phase }, { on := 1, ground := Ground.phase }, { on := 2, ground := Ground.phase }, { on := 3, ground := Ground.phase }, { on := 4, ground := Ground.phase }], guard := none }) rfl (fun K hK => ?_) AllReadyH.nil
        clear hHeld
        go_simp
        refine hK.out _ _ ((set_far (k := w.heap.size) (b := w.heap.size + 3) (by omega)).trans q0) (fun hHeld => ?_)
        clear hK K hHeld
        refine wpAnyH_done (by kernel_rfl) ?_ _
        refine NoPanic.normal ?_
        go_wp2_with fail
        go_meet
        exact ⟨_, HA7.out.setL HW.out _, HO7.out.turn (fun k h1 _ => Below.heap_setCell _ _ _ _ (by show k ≠ w.heap.size + 3; omega))⟩
      · clear hHeld
        go_simp
        refine HTl1.out.mono ?_; rintro e w5 ⟨rfl, hb5⟩
        have HA5 := hid (HA1.out.call HW.out hb5)
        obtain ⟨d0, d2, d3, g2, g3⟩ := HA5.out.cells
        have HA6 := hid (HA5.out.call HW.out (below_alloc w5 (.cells PQ 53)))
        obtain ⟨x0, x2, x3, y2, y3⟩ := HA6.out.cells
        obtain ⟨v', W', hr, hop, hbl⟩ := ownp_push (ownp_nil (w.heap.size + 4) (w5.alloc (.cells PQ 53))) (tellV v 2) w5.heap.size (HPQ.out w5) (by have := HA5.out.lt; rw [World.size_alloc]; omega) (by simp)
        obtain ⟨a', c', rfl, -, -⟩ := hop.shape
        have HA7 := hid (HA6.out.fresh HW.out hbl)
        have HR := hid hr
        have HO7 := hid hop
        obtain ⟨q0, q2, q3, r2, r3⟩ := HA7.out.cells
        clear hb5 hr hop hbl
        go_wp2_with fail
        refine hK.out _ _ d0 (fun hHeld => ?_)
        clear hK K
        try simp only [Act.put, List.setIfInBounds_toArray, List.set_cons_zero, List.set_cons_succ]
        refine wpAnyH_ready (rs := [0, 3]) (by kernel_rfl) (by simp) ?_
        refine AllReadyH.cons (o := { dst := some 16, op := Op.load 103 (Operand.tmp 5), type := 103, pos := "view.go:192", after := #[], guard := none }) rfl (fun K hK => ?_) (AllReadyH.cons (o := { dst := some 19, op := Op.buildSlice 103 1 #[(0, Operand.tmp 18)], type := 103, pos := "view.go:192", after := #[{ on := 2, ground := Ground.data }], guard := none }) rfl (fun K hK => ?_) AllReadyH.nil)
        · clear hHeld
          go_simp
          refine hK.out _ _ d0 (fun hHeld => ?_)
          clear hK K
          try simp only [Act.put, List.setIfInBounds_toArray, List.set_cons_zero, List.set_cons_succ]
          refine wpAnyH_ready (rs := [3]) (by kernel_rfl) (by simp) ?_
          refine AllReadyH.cons (o := { dst := some 19, op := Op.buildSlice 103 1 #[(0, Operand.tmp 18)], type := 103, pos := "view.go:192", after := #[{ on := 2, ground := Ground.data }], guard := none }) rfl (fun K hK => ?_) AllReadyH.nil
          rw [if_pos (by rfl)]
          refine wp_bslice _ rfl PQ rfl hPQs ?_
          refine hK.out _ _ x0 (fun hHeld => ?_)
          clear hK K
          try simp only [Act.put, List.setIfInBounds_toArray, List.set_cons_zero, List.set_cons_succ]
          refine wpAnyH_ready (rs := [4]) (by kernel_rfl) (by simp) ?_
          refine AllReadyH.cons (o := { dst := some 20, op := Op.call { callee := Callee.builtin Builtin.append, args := #[Operand.tmp 16, Operand.tmp 19], argTypes := #[103, 103] }, type := 103, pos := "view.go:192", after := #[{ on := 0, ground := Ground.data }, { on := 3, ground := Ground.data }, { on := 2, ground := Ground.chain }], guard := none }) rfl (fun K hK => ?_) AllReadyH.nil
          rw [if_pos (by rfl)]
          refine wp_app _ _ 103 rfl _ _ rfl rfl HR.out ?_
          refine hK.out _ _ q0 (fun hHeld => ?_)
          clear hK K
          try simp only [Act.put, List.setIfInBounds_toArray, List.set_cons_zero, List.set_cons_succ]
          refine wpAnyH_ready (rs := [5]) (by kernel_rfl) (by simp) ?_
          refine AllReadyH.cons (o := { dst := none, op := Op.store 103 (Operand.tmp 5) (Operand.tmp 20), type := 0, pos := "view.go:192", after := #[{ on := 4, ground := Ground.data }, { on := 4, ground := Ground.chain }, { on := 0, ground := Ground.phase }, { on := 1, ground := Ground.phase }, { on := 2, ground := Ground.phase }, { on := 3, ground := Ground.phase }, { on := 4, ground := Ground.phase }], guard := none }) rfl (fun K hK => ?_) AllReadyH.nil
          clear hHeld
          go_simp
          refine hK.out _ _ ((set_far (k := w.heap.size) (b := w.heap.size + 3) (by omega)).trans q0) (fun hHeld => ?_)
          clear hK K hHeld
          refine wpAnyH_done (by kernel_rfl) ?_ _
          refine NoPanic.normal ?_
          go_wp2_with fail
          go_meet
          exact ⟨_, HA7.out.setL HW.out _, HO7.out.turn (fun k h1 _ => Below.heap_setCell _ _ _ _ (by show k ≠ w.heap.size + 3; omega))⟩
        · rw [if_pos (by rfl)]
          refine wp_bslice _ rfl PQ rfl hPQs ?_
          refine hK.out _ _ x0 (fun hHeld => ?_)
          clear hK K
          try simp only [Act.put, List.setIfInBounds_toArray, List.set_cons_zero, List.set_cons_succ]
          refine wpAnyH_ready (rs := [0]) (by kernel_rfl) (by simp) ?_
          refine AllReadyH.cons (o := { dst := some 16, op := Op.load 103 (Operand.tmp 5), type := 103, pos := "view.go:192", after := #[], guard := none }) rfl (fun K hK => ?_) AllReadyH.nil
          clear hHeld
          go_simp
          refine hK.out _ _ x0 (fun hHeld => ?_)
          clear hK K
          try simp only [Act.put, List.setIfInBounds_toArray, List.set_cons_zero, List.set_cons_succ]
          refine wpAnyH_ready (rs := [4]) (by kernel_rfl) (by simp) ?_
          refine AllReadyH.cons (o := { dst := some 20, op := Op.call { callee := Callee.builtin Builtin.append, args := #[Operand.tmp 16, Operand.tmp 19], argTypes := #[103, 103] }, type := 103, pos := "view.go:192", after := #[{ on := 0, ground := Ground.data }, { on := 3, ground := Ground.data }, { on := 2, ground := Ground.chain }], guard := none }) rfl (fun K hK => ?_) AllReadyH.nil
          rw [if_pos (by rfl)]
          refine wp_app _ _ 103 rfl _ _ rfl rfl HR.out ?_
          refine hK.out _ _ q0 (fun hHeld => ?_)
          clear hK K
          try simp only [Act.put, List.setIfInBounds_toArray, List.set_cons_zero, List.set_cons_succ]
          refine wpAnyH_ready (rs := [5]) (by kernel_rfl) (by simp) ?_
          refine AllReadyH.cons (o := { dst := none, op := Op.store 103 (Operand.tmp 5) (Operand.tmp 20), type := 0, pos := "view.go:192", after := #[{ on := 4, ground := Ground.data }, { on := 4, ground := Ground.chain }, { on := 0, ground := Ground.phase }, { on := 1, ground := Ground.phase }, { on := 2, ground := Ground.phase }, { on := 3, ground := Ground.phase }, { on := 4, ground := Ground.phase }], guard := none }) rfl (fun K hK => ?_) AllReadyH.nil
          clear hHeld
          go_simp
          refine hK.out _ _ ((set_far (k := w.heap.size) (b := w.heap.size + 3) (by omega)).trans q0) (fun hHeld => ?_)
          clear hK K hHeld
          refine wpAnyH_done (by kernel_rfl) ?_ _
          refine NoPanic.normal ?_
          go_wp2_with fail
          go_meet
          exact ⟨_, HA7.out.setL HW.out _, HO7.out.turn (fun k h1 _ => Below.heap_setCell _ _ _ _ (by show k ≠ w.heap.size + 3; omega))⟩
  case rest =>
  obtain ⟨vl, HA, HOw⟩ := hcut
  clear HA0 HTl HPQ hPQs
  generalize wc = w5 at *
  have HPr := hid (HRg.out _ _ HA.out.p1)
  obtain ⟨p0, p1, p2, p3, p4⟩ := HA.out.p1.cells
  obtain ⟨al, cl, hvl, -, -⟩ := HOw.out.shape
  subst hvl
  obtain ⟨NL, hNL⟩ : ∃ x, (ans1 v Z).length = x := ⟨_, rfl⟩
  have HNL : Hid (NL ≤ 1) := by
    rw [← hNL]
    show (if Z = true then [tellV v 2] else []).length ≤ 1
    split <;> simp
  have HNl := hid hNL
  rw [hNL] at HA HOw
  go_wp2_with (refine wpList_load_mid rfl 24 _ rfl (w.heap.size + 1) 5 rfl _ _ HPr.out Tryz.underlying24 rfl iC ?_; rw [Array.toArray_toList])
  refine (HSo.out _).mono ?_; rintro r w6 ⟨rfl, rfl⟩
  go_wp2_with fail
  have HBx : Hid (Box (w5.alloc (.cells CS 24)) w5.heap.size p.cl) := by
    show _ = _
    rw [← HCS.out]; exact heap_alloc_new w5 _
  have HA6 := hid (HA.out.call HW.out (below_alloc w5 (.cells CS 24)))
  have HO6 := hid (HOw.out.below (below_alloc w5 (.cells CS 24)))
  have HWs : Hid (w.heap.size ≤ (w5.alloc (.cells CS 24)).heap.size) := HA6.out.bel.size
  clear p0 p1 p2 p3 p4 HPr HA HOw iC hNL
  generalize w5.alloc (.cells CS 24) = W0 at HBx HA6 HO6 HWs ⊢
  generalize w5.heap.size = bn at HBx ⊢
  refine wpIn_wide.1 (wpIn_rangeFunc_ownF (n := 3) (F := Fence.wide) rfl (by omega) (gf := 93) (lb := #[.pointer (some ⟨bn, 0, none⟩)]) rfl trivial (enters_of Tryz.func93 (by kernel_rfl) rfl)
    (slots_stops 2 bn b p.cl W0 (by omega) HBx.out HA6.out.vb.lt) kpb_t (fun W l o o' _ h hc _ => kpb_b W l o o' h hc) (Below.refl _ _) (fun _ => rfl)
    (fun (pre : List Sl) (W : World) => (∀ s ∈ svals pre, wb v p s = false) ∧ An w W b v p (.slice none 0 0) (.slice al NL cl) ∧ OwnP (w.heap.size + 4) W (.slice al NL cl) (ans1 v Z))
    (fun (c : Code) (pre : List Sl) (W : World) => c = .ret ∧ ∃ q x vr, svals pre = q ++ [x] ∧ (∀ s ∈ q, wb v p s = false) ∧ wb v p x = true ∧ An w W b v p vr (.slice al NL cl) ∧ OwnP (w.heap.size + 4) W vr (ans1 v Z ++ [updV v (v.own x)]))
    (fun s A B row hs hg hr => ⟨hs.1, hs.2.1.kept HWs.out hg hr, hs.2.2.kept hg (fun r e => (hr r e).2)⟩)
    (fun c s A B row hs hg hr => by
      obtain ⟨h1, q, x, vr, h2, h3, h4, h5, h6⟩ := hs
      exact ⟨h1, q, x, vr, h2, h3, h4, h5.kept HWs.out hg hr, h6.kept hg (fun r e => (hr r e).2)⟩)
    ⟨fun s hs => (by cases hs), HA6.out, HO6.out⟩
    (fun x => { tmps := #[.pointer (some ⟨b, 0, none⟩), .agg PC, .pointer (some ⟨w.heap.size, 0, none⟩), .pointer (some ⟨w.heap.size + 1, 0, none⟩), .pointer (some ⟨w.heap.size + 1 + 1, 0, none⟩), .pointer (some ⟨w.heap.size + 1 + 1 + 1, 0, none⟩), .int .i64 (x.1 : Int), undef, u8, u9, u10, u11, u12, u13, u14, .bool Z, u16, u17, u18, u19, u20, .pointer (some ⟨w.heap.size + 1, 5, none⟩),
      .agg CS, .func (.func 93) #[] #[.pointer (some ⟨bn, 0, none⟩)], .int .i64 (x.1 : Int), undef, undef, undef, undef, undef, undef, undef, undef, undef, undef, undef, undef, undef, undef, undef, undef, undef, undef, undef, undef, undef, undef], defers := [] }) ?assign ?body ?done ?stop)
  case assign =>
    intro l x W K hK
    gi_wp2
    exact hK
  case body =>
    rintro l pre ⟨x, hx⟩ W ⟨hq, hA, hP⟩ -
    obtain ⟨c0, c2, c3, f2, f3⟩ := hA.cells
    obtain ⟨p0, p1, p2, p3, p4⟩ := hA.p1.cells
    rw [hf] at p1
    have hO := owner_any b v (x : Int) W hA.vb
    rw [ownI_in _ hx] at hO
    have HOw := hid hO
    have HAw := hid hA
    have HPw := hid hP
    have HEp := hid (epoch_any b v (ownZ (v.own x)) W.drew (hA.vb.turn rfl))
    obtain ⟨o, hoe⟩ : ∃ o, v.own x = o := ⟨_, rfl⟩
    have ho64 : o ≤ 64 := by rw [← hoe]; exact HO.out x
    have HWb : Hid (wb v p x = (decide (o ≠ 64) && decide (o ≠ f) && decide (p.epoch < v.ep o))) := by
      show wb v p x = _
      unfold wb
      rw [hoe, hf, Int.toNat_natCast]
    have HQn : Hid (wb v p x = false → ∀ s ∈ svals (pre ++ [(⟨x, hx⟩ : Sl)]), wb v p s = false) := fun h s hs => by
      rw [svals_snoc] at hs
      rcases List.mem_append.1 hs with hs | hs
      · exact hq s hs
      · rw [List.mem_singleton.1 hs]; exact h
    have HQo := hid hq
    have HXo := hid hoe
    rw [hoe] at HOw HEp
    clear hO hA hP hq hoe
    dsimp only
    by_cases hzf : ownZ o = (f : Int)
    · have hwb : wb v p x = false := by
        rw [HWb.out]
        have : o = f := by
          unfold ownZ at hzf
          split at hzf <;> omega
        rw [this]
        simp
      have HQ2 := hid (HQn.out hwb)
      clear hwb ho64
      rw [hzf] at HOw
      have hzf2 : ((f : Int) != (f : Int)) = false := by simp
      gi_wp2_with (refine ⟨trivial, ?_⟩; gi_at_call 27; refine (CallsIn.inRound l (callsIn_wide.2 HOw.out)).mono ?_; rintro r w' ⟨rfl, hw'⟩; subst hw')
      refine region_round (S := fun W => W.cell? ⟨w.heap.size, 0, none⟩ = some (.pointer (some ⟨b, 0, none⟩)) ∧ W.cell? ⟨w.heap.size + 1, 1, none⟩ = some (.int .i64 (f : Int)) ∧ W.cell? ⟨w.heap.size + 1, 3, none⟩ = some (.int .u64 (p.epoch : Int))) (by kernel_rfl) (by rintro ⟨_, _, h⟩; exact h) (by kernel_rfl) ⟨c0, p1, p3⟩ (fun hHeld => ?_)
      refine wpAnyH_take (i := 0) (oi := { dst := some 28, op := Op.move (Operand.tmp 7), type := 3, pos := "view.go:196", after := #[], guard := none }) (v := .int .i64 (f : Int)) rfl (by kernel_rfl) (by kernel_rfl) (by kernel_rfl) (fun _ _ _ h => h) (Or.inl ⟨by rfl, fun wS hSw => ?_⟩) (by assumption) ?_
      · clear hHeld
        clear hSw
        go_simp
      try simp only [Act.put, List.setIfInBounds_toArray, List.set_cons_zero, List.set_cons_succ]
      refine wpAnyH_take (i := 1) (oi := { dst := some 29, op := Op.fieldAddr 53 (Operand.tmp 3) 1, type := 0, pos := "view.go:196", after := #[], guard := none }) (v := .pointer (some ⟨w.heap.size + 1, 1, none⟩)) rfl (by kernel_rfl) (by kernel_rfl) (by kernel_rfl) (fun _ _ _ h => h) (Or.inl ⟨by rfl, fun wS hSw => ?_⟩) (by assumption) ?_
      · clear hHeld
        clear hSw
        go_simp
      try simp only [Act.put, List.setIfInBounds_toArray, List.set_cons_zero, List.set_cons_succ]
      refine wpAnyH_take (i := 2) (oi := { dst := some 30, op := Op.load 3 (Operand.tmp 29), type := 3, pos := "view.go:196", after := #[{ on := 1, ground := Ground.data }], guard := none }) (v := .int .i64 (f : Int)) rfl (by kernel_rfl) (by kernel_rfl) (by kernel_rfl) (fun _ _ _ h => h) (Or.inl ⟨by rfl, fun wS hSw => ?_⟩) (by assumption) ?_
      · clear hHeld
        obtain ⟨s0, s1, s2⟩ := hSw
        go_simp
      try simp only [Act.put, List.setIfInBounds_toArray, List.set_cons_zero, List.set_cons_succ]
      refine wpAnyH_take (i := 3) (oi := { dst := some 31, op := Op.binOp BinOp.neq 3 (Operand.tmp 28) (Operand.tmp 30) 3, type := 4, pos := "view.go:196", after := #[{ on := 0, ground := Ground.data }, { on := 2, ground := Ground.data }], guard := none }) (v := .bool false) rfl (by kernel_rfl) (by kernel_rfl) (by kernel_rfl) (fun _ _ _ h => h) (Or.inl ⟨by rfl, fun wS hSw => ?_⟩) (by assumption) ?_
      · clear hHeld
        have hzz := hzf2
        clear hSw
        go_simp
      try simp only [Act.put, List.setIfInBounds_toArray, List.set_cons_zero, List.set_cons_succ]
      refine wpAnyH_take (i := 4) (oi := { dst := some 32, op := Op.move (Operand.tmp 31), type := 4, pos := "view.go:196", after := #[{ on := 3, ground := Ground.data }], guard := none }) (v := .bool false) rfl (by kernel_rfl) (by kernel_rfl) (by kernel_rfl) (fun _ _ _ h => h) (Or.inl ⟨by rfl, fun wS hSw => ?_⟩) (by assumption) ?_
      · clear hHeld
        clear hSw
        go_simp
      try simp only [Act.put, List.setIfInBounds_toArray, List.set_cons_zero, List.set_cons_succ]
      refine wpAnyH_take (i := 5) (oi := { dst := some 33, op := Op.load 50 (Operand.tmp 2), type := 50, pos := "view.go:196", after := #[{ on := 4, ground := Ground.guard }], guard := some (4, true) }) (v := undef) rfl (by kernel_rfl) (by kernel_rfl) (by kernel_rfl) (fun _ _ _ h => h) (Or.inr ⟨by rfl, rfl⟩) (by assumption) ?_
      try simp only [Act.put, List.setIfInBounds_toArray, List.set_cons_zero, List.set_cons_succ]
      refine wpAnyH_take (i := 6) (oi := { dst := some 34, op := Op.move (Operand.tmp 7), type := 3, pos := "view.go:196", after := #[{ on := 4, ground := Ground.guard }], guard := some (4, true) }) (v := undef) rfl (by kernel_rfl) (by kernel_rfl) (by kernel_rfl) (fun _ _ _ h => h) (Or.inr ⟨by rfl, rfl⟩) (by assumption) ?_
      try simp only [Act.put, List.setIfInBounds_toArray, List.set_cons_zero, List.set_cons_succ]
      refine wpAnyH_take (i := 7) (oi := { dst := some 35, op := Op.call { callee := Callee.value (Operand.func 19), args := #[Operand.tmp 33, Operand.tmp 34], argTypes := #[50, 3] }, type := 22, pos := "view.go:196", after := #[{ on := 5, ground := Ground.data }, { on := 6, ground := Ground.data }, { on := 4, ground := Ground.chain }, { on := 4, ground := Ground.guard }], guard := some (4, true) }) (v := undef) rfl (by kernel_rfl) (by kernel_rfl) (by kernel_rfl) (fun _ _ _ h => h) (Or.inr ⟨by rfl, rfl⟩) (by assumption) ?_
      try simp only [Act.put, List.setIfInBounds_toArray, List.set_cons_zero, List.set_cons_succ]
      refine wpAnyH_take (i := 8) (oi := { dst := some 36, op := Op.fieldAddr 53 (Operand.tmp 3) 3, type := 0, pos := "view.go:196", after := #[{ on := 4, ground := Ground.guard }], guard := some (4, true) }) (v := undef) rfl (by kernel_rfl) (by kernel_rfl) (by kernel_rfl) (fun _ _ _ h => h) (Or.inr ⟨by rfl, rfl⟩) (by assumption) ?_
      try simp only [Act.put, List.setIfInBounds_toArray, List.set_cons_zero, List.set_cons_succ]
      refine wpAnyH_take (i := 9) (oi := { dst := some 37, op := Op.load 22 (Operand.tmp 36), type := 22, pos := "view.go:196", after := #[{ on := 8, ground := Ground.data }, { on := 4, ground := Ground.guard }], guard := some (4, true) }) (v := undef) rfl (by kernel_rfl) (by kernel_rfl) (by kernel_rfl) (fun _ _ _ h => h) (Or.inr ⟨by rfl, rfl⟩) (by assumption) ?_
      try simp only [Act.put, List.setIfInBounds_toArray, List.set_cons_zero, List.set_cons_succ]
      refine wpAnyH_take (i := 10) (oi := { dst := some 38, op := Op.binOp BinOp.gtr 22 (Operand.tmp 35) (Operand.tmp 37) 22, type := 4, pos := "view.go:196", after := #[{ on := 7, ground := Ground.data }, { on := 9, ground := Ground.data }, { on := 4, ground := Ground.guard }], guard := some (4, true) }) (v := undef) rfl (by kernel_rfl) (by kernel_rfl) (by kernel_rfl) (fun _ _ _ h => h) (Or.inr ⟨by rfl, rfl⟩) (by assumption) ?_
      try simp only [Act.put, List.setIfInBounds_toArray, List.set_cons_zero, List.set_cons_succ]
      refine wpAnyH_take (i := 11) (oi := { dst := some 39, op := Op.pick (Operand.tmp 32) (Operand.tmp 38) (Operand.const (Value.bool false)), type := 4, pos := "view.go:196", after := #[{ on := 4, ground := Ground.data }, { on := 10, ground := Ground.data }], guard := none }) (v := .bool false) rfl (by kernel_rfl) (by kernel_rfl) (by kernel_rfl) (fun _ _ _ h => h) (Or.inl ⟨by rfl, fun wS hSw => ?_⟩) (by assumption) ?_
      · clear hHeld
        clear hSw
        go_simp
      try simp only [Act.put, List.setIfInBounds_toArray, List.set_cons_zero, List.set_cons_succ]
      refine wpAnyH_done (by kernel_rfl) ?_ _
      clear hHeld
      gi_wp2
      exact ⟨KeepsOthers.drew _, kpb_only (Only.refl b w').drew, HQ2.out, HAw.out.drew, HPw.out.turn (fun _ _ _ => rfl)⟩
    · have hzf2 : (ownZ o != (f : Int)) = true := by rw [bne_iff_ne]; exact hzf
      obtain ⟨ev, hev⟩ : ∃ e, epI v (ownZ o) = e := ⟨_, rfl⟩
      rw [hev] at HEp
      have HEv := hid hev
      obtain ⟨z, hz⟩ : ∃ z, ownZ o = z := ⟨_, rfl⟩
      rw [hz] at HOw HEp hzf2
      have HZz := hid hz
      have HZf := hid hzf
      have HO64 := hid ho64
      clear hev hz hzf ho64
      by_cases hg : p.epoch < ev
      · have hgz : (p.epoch : Int) < (ev : Int) := by omega
        have hol : o < 64 := by
          have h1 := HEv.out
          have h2 := HO64.out
          by_cases c : o < 64
          · exact c
          · exfalso
            have h3 : o = 64 := by omega
            rw [h3] at h1
            have h4 : epI v (ownZ 64) = 0 := rfl
            omega
        have hzo : z = (o : Int) := by rw [← HZz.out]; unfold ownZ; rw [if_pos hol]
        have hwb : wb v p x = true := by
          rw [HWb.out]
          have h1 : ev = v.ep o := by rw [← HEv.out, HZz.out, hzo]; exact epI_in v hol
          have h2 : o ≠ f := fun c => HZf.out (by rw [HZz.out, hzo, c])
          rw [h1] at hg
          simp [hg, h2]; omega
        have HB1 := hid hwb
        have HOl := hid hol
        subst hzo
        clear hg hol hwb
        gi_wp2_with (refine ⟨trivial, ?_⟩; gi_at_call 27; refine (CallsIn.inRound l (callsIn_wide.2 HOw.out)).mono ?_; rintro r w' ⟨rfl, hw'⟩; subst hw')
        refine region_round (S := fun W => W.cell? ⟨w.heap.size, 0, none⟩ = some (.pointer (some ⟨b, 0, none⟩)) ∧ W.cell? ⟨w.heap.size + 1, 1, none⟩ = some (.int .i64 (f : Int)) ∧ W.cell? ⟨w.heap.size + 1, 3, none⟩ = some (.int .u64 (p.epoch : Int))) (by kernel_rfl) (by rintro ⟨_, _, h⟩; exact h) (by kernel_rfl) ⟨c0, p1, p3⟩ (fun hHeld => ?_)
        refine wpAnyH_take (i := 0) (oi := { dst := some 28, op := Op.move (Operand.tmp 7), type := 3, pos := "view.go:196", after := #[], guard := none }) (v := .int .i64 (o : Int)) rfl (by kernel_rfl) (by kernel_rfl) (by kernel_rfl) (fun _ _ _ h => h) (Or.inl ⟨by rfl, fun wS hSw => ?_⟩) (by assumption) ?_
        · clear hHeld
          clear hSw
          go_simp
        try simp only [Act.put, List.setIfInBounds_toArray, List.set_cons_zero, List.set_cons_succ]
        refine wpAnyH_take (i := 1) (oi := { dst := some 29, op := Op.fieldAddr 53 (Operand.tmp 3) 1, type := 0, pos := "view.go:196", after := #[], guard := none }) (v := .pointer (some ⟨w.heap.size + 1, 1, none⟩)) rfl (by kernel_rfl) (by kernel_rfl) (by kernel_rfl) (fun _ _ _ h => h) (Or.inl ⟨by rfl, fun wS hSw => ?_⟩) (by assumption) ?_
        · clear hHeld
          clear hSw
          go_simp
        try simp only [Act.put, List.setIfInBounds_toArray, List.set_cons_zero, List.set_cons_succ]
        refine wpAnyH_take (i := 2) (oi := { dst := some 30, op := Op.load 3 (Operand.tmp 29), type := 3, pos := "view.go:196", after := #[{ on := 1, ground := Ground.data }], guard := none }) (v := .int .i64 (f : Int)) rfl (by kernel_rfl) (by kernel_rfl) (by kernel_rfl) (fun _ _ _ h => h) (Or.inl ⟨by rfl, fun wS hSw => ?_⟩) (by assumption) ?_
        · clear hHeld
          obtain ⟨s0, s1, s2⟩ := hSw
          go_simp
        try simp only [Act.put, List.setIfInBounds_toArray, List.set_cons_zero, List.set_cons_succ]
        refine wpAnyH_take (i := 3) (oi := { dst := some 31, op := Op.binOp BinOp.neq 3 (Operand.tmp 28) (Operand.tmp 30) 3, type := 4, pos := "view.go:196", after := #[{ on := 0, ground := Ground.data }, { on := 2, ground := Ground.data }], guard := none }) (v := .bool true) rfl (by kernel_rfl) (by kernel_rfl) (by kernel_rfl) (fun _ _ _ h => h) (Or.inl ⟨by rfl, fun wS hSw => ?_⟩) (by assumption) ?_
        · clear hHeld
          have hzz := hzf2
          clear hSw
          go_simp
        try simp only [Act.put, List.setIfInBounds_toArray, List.set_cons_zero, List.set_cons_succ]
        refine wpAnyH_take (i := 4) (oi := { dst := some 32, op := Op.move (Operand.tmp 31), type := 4, pos := "view.go:196", after := #[{ on := 3, ground := Ground.data }], guard := none }) (v := .bool true) rfl (by kernel_rfl) (by kernel_rfl) (by kernel_rfl) (fun _ _ _ h => h) (Or.inl ⟨by rfl, fun wS hSw => ?_⟩) (by assumption) ?_
        · clear hHeld
          clear hSw
          go_simp
        try simp only [Act.put, List.setIfInBounds_toArray, List.set_cons_zero, List.set_cons_succ]
        refine wpAnyH_take (i := 5) (oi := { dst := some 33, op := Op.load 50 (Operand.tmp 2), type := 50, pos := "view.go:196", after := #[{ on := 4, ground := Ground.guard }], guard := some (4, true) }) (v := .pointer (some ⟨b, 0, none⟩)) rfl (by kernel_rfl) (by kernel_rfl) (by kernel_rfl) (fun _ _ _ h => h) (Or.inl ⟨by rfl, fun wS hSw => ?_⟩) (by assumption) ?_
        · clear hHeld
          obtain ⟨s0, s1, s2⟩ := hSw
          go_simp
        try simp only [Act.put, List.setIfInBounds_toArray, List.set_cons_zero, List.set_cons_succ]
        refine wpAnyH_take (i := 6) (oi := { dst := some 34, op := Op.move (Operand.tmp 7), type := 3, pos := "view.go:196", after := #[{ on := 4, ground := Ground.guard }], guard := some (4, true) }) (v := .int .i64 (o : Int)) rfl (by kernel_rfl) (by kernel_rfl) (by kernel_rfl) (fun _ _ _ h => h) (Or.inl ⟨by rfl, fun wS hSw => ?_⟩) (by assumption) ?_
        · clear hHeld
          clear hSw
          go_simp
        try simp only [Act.put, List.setIfInBounds_toArray, List.set_cons_zero, List.set_cons_succ]
        refine wpAnyH_take (i := 8) (oi := { dst := some 36, op := Op.fieldAddr 53 (Operand.tmp 3) 3, type := 0, pos := "view.go:196", after := #[{ on := 4, ground := Ground.guard }], guard := some (4, true) }) (v := .pointer (some ⟨w.heap.size + 1, 3, none⟩)) rfl (by kernel_rfl) (by kernel_rfl) (by kernel_rfl) (fun _ _ _ h => h) (Or.inl ⟨by rfl, fun wS hSw => ?_⟩) (by assumption) ?_
        · clear hHeld
          clear hSw
          go_simp
        try simp only [Act.put, List.setIfInBounds_toArray, List.set_cons_zero, List.set_cons_succ]
        refine wpAnyH_take (i := 9) (oi := { dst := some 37, op := Op.load 22 (Operand.tmp 36), type := 22, pos := "view.go:196", after := #[{ on := 8, ground := Ground.data }, { on := 4, ground := Ground.guard }], guard := some (4, true) }) (v := .int .u64 (p.epoch : Int)) rfl (by kernel_rfl) (by kernel_rfl) (by kernel_rfl) (fun _ _ _ h => h) (Or.inl ⟨by rfl, fun wS hSw => ?_⟩) (by assumption) ?_
        · clear hHeld
          obtain ⟨s0, s1, s2⟩ := hSw
          go_simp
        try simp only [Act.put, List.setIfInBounds_toArray, List.set_cons_zero, List.set_cons_succ]
        refine wpAnyH_ready (rs := [7]) (by kernel_rfl) (by simp) ?_
        refine AllReadyH.cons (o := { dst := some 35, op := Op.call { callee := Callee.value (Operand.func 19), args := #[Operand.tmp 33, Operand.tmp 34], argTypes := #[50, 3] }, type := 22, pos := "view.go:196", after := #[{ on := 5, ground := Ground.data }, { on := 6, ground := Ground.data }, { on := 4, ground := Ground.chain }, { on := 4, ground := Ground.guard }], guard := some (4, true) }) rfl (fun K hK => ?_) AllReadyH.nil
        clear hHeld
        go_simp
        refine HEp.out.mono ?_; rintro r wz ⟨rfl, rfl⟩
        go_wp2_with fail
        refine hK.out _ _ ⟨c0, p1, p3⟩ (fun hHeld => ?_)
        clear hK K
        try simp only [Act.put, List.setIfInBounds_toArray, List.set_cons_zero, List.set_cons_succ]
        refine wpAnyH_take (i := 10) (oi := { dst := some 38, op := Op.binOp BinOp.gtr 22 (Operand.tmp 35) (Operand.tmp 37) 22, type := 4, pos := "view.go:196", after := #[{ on := 7, ground := Ground.data }, { on := 9, ground := Ground.data }, { on := 4, ground := Ground.guard }], guard := some (4, true) }) (v := .bool true) rfl (by kernel_rfl) (by kernel_rfl) (by kernel_rfl) (fun _ _ _ h => h) (Or.inl ⟨by rfl, fun wS hSw => ?_⟩) (by assumption) ?_
        · clear hHeld
          clear hSw
          go_simp
        try simp only [Act.put, List.setIfInBounds_toArray, List.set_cons_zero, List.set_cons_succ]
        refine wpAnyH_take (i := 11) (oi := { dst := some 39, op := Op.pick (Operand.tmp 32) (Operand.tmp 38) (Operand.const (Value.bool false)), type := 4, pos := "view.go:196", after := #[{ on := 4, ground := Ground.data }, { on := 10, ground := Ground.data }], guard := none }) (v := .bool true) rfl (by kernel_rfl) (by kernel_rfl) (by kernel_rfl) (fun _ _ _ h => h) (Or.inl ⟨by rfl, fun wS hSw => ?_⟩) (by assumption) ?_
        · clear hHeld
          clear hSw
          go_simp
        try simp only [Act.put, List.setIfInBounds_toArray, List.set_cons_zero, List.set_cons_succ]
        refine wpAnyH_done (by kernel_rfl) ?_ _
        clear hHeld
        gi_wp2
        have HA2 := hid HAw.out.drew.drew
        have HU2 := hid (HUp.out w'.drew.drew o HOl.out HA2.out.vb)
        obtain ⟨UQ, hUQ⟩ : ∃ C, pkCells (updV v o) = C := ⟨_, rfl⟩
        have hUQs : UQ.size = 261 := by rw [← hUQ]; exact pkCells_size _
        have HUQ : Hid (∀ W : World, PBox (W.alloc (.cells UQ 53)) W.heap.size (updV v o)) := fun W => by rw [← hUQ]; exact pbox_new W _
        rw [hUQ] at HU2
        clear hUQ
        refine region_round (S := fun W => W.cell? ⟨w.heap.size, 0, none⟩ = some (.pointer (some ⟨b, 0, none⟩)) ∧ W.cell? ⟨w.heap.size + 3, 0, none⟩ = some (.slice al NL cl)) (by kernel_rfl) (by rintro ⟨_, _, h⟩; exact h) (by kernel_rfl) ⟨c0, c3⟩ (fun hHeld => ?_)
        refine wpAnyH_take (i := 0) (oi := { dst := some 40, op := Op.load 103 (Operand.tmp 5), type := 103, pos := "view.go:197", after := #[], guard := none }) (v := .slice al NL cl) rfl (by kernel_rfl) (by kernel_rfl) (by kernel_rfl) (fun _ _ _ h => h) (Or.inl ⟨by rfl, fun wS hSw => ?_⟩) (by assumption) ?_
        · clear hHeld
          obtain ⟨s0, s1⟩ := hSw
          go_simp
        try simp only [Act.put, List.setIfInBounds_toArray, List.set_cons_zero, List.set_cons_succ]
        refine wpAnyH_take (i := 1) (oi := { dst := some 41, op := Op.load 50 (Operand.tmp 2), type := 50, pos := "view.go:197", after := #[], guard := none }) (v := .pointer (some ⟨b, 0, none⟩)) rfl (by kernel_rfl) (by kernel_rfl) (by kernel_rfl) (fun _ _ _ h => h) (Or.inl ⟨by rfl, fun wS hSw => ?_⟩) (by assumption) ?_
        · clear hHeld
          obtain ⟨s0, s1⟩ := hSw
          go_simp
        try simp only [Act.put, List.setIfInBounds_toArray, List.set_cons_zero, List.set_cons_succ]
        refine wpAnyH_take (i := 2) (oi := { dst := some 42, op := Op.move (Operand.tmp 7), type := 3, pos := "view.go:197", after := #[], guard := none }) (v := .int .i64 (o : Int)) rfl (by kernel_rfl) (by kernel_rfl) (by kernel_rfl) (fun _ _ _ h => h) (Or.inl ⟨by rfl, fun wS hSw => ?_⟩) (by assumption) ?_
        · clear hHeld
          clear hSw
          go_simp
        try simp only [Act.put, List.setIfInBounds_toArray, List.set_cons_zero, List.set_cons_succ]
        refine wpAnyH_ready (rs := [3]) (by kernel_rfl) (by simp) ?_
        refine AllReadyH.cons (o := { dst := some 43, op := Op.call { callee := Callee.value (Operand.func 89), args := #[Operand.tmp 41, Operand.tmp 42], argTypes := #[50, 3] }, type := 53, pos := "view.go:197", after := #[{ on := 1, ground := Ground.data }, { on := 2, ground := Ground.data }], guard := none }) rfl (fun K hK => ?_) AllReadyH.nil
        clear hHeld
        go_simp
        refine HU2.out.mono ?_; rintro r w7 ⟨rfl, hb7⟩
        have HA7 := hid (HA2.out.call HW.out hb7)
        obtain ⟨d0, d2, d3, g2, g3⟩ := HA7.out.cells
        have HA8 := hid (HA7.out.call HW.out (below_alloc w7 (.cells UQ 53)))
        obtain ⟨x0, x2, x3, y2, y3⟩ := HA8.out.cells
        have HP7 : Hid (OwnP (w.heap.size + 4) (w7.alloc (.cells UQ 53)) (.slice al NL cl) (ans1 v Z)) := ((HPw.out.turn (W' := w'.drew.drew) (fun _ _ _ => rfl)).below hb7).below (below_alloc w7 _)
        obtain ⟨v', W', hr, hop, hbl, hko⟩ := ownp_push2 HP7.out (updV v o) w7.heap.size (HUQ.out w7) (by have := HA7.out.lt; rw [World.size_alloc]; omega) (by have := HNL.out; have := HNl.out; omega)
        obtain ⟨a', c', rfl, -, -⟩ := hop.shape
        have HA9 := hid (HA8.out.fresh HW.out hbl)
        have HR := hid hr
        have HO9 := hid hop
        have HKo : Hid (KeepsOthers w' W') := (((KeepsOthers.drew _).trans (KeepsOthers.drew _)).trans (keeps_below hb7)).trans ((KeepsOthers.alloc _ _).trans hko)
        obtain ⟨q0, q2, q3, r2, r3⟩ := HA9.out.cells
        clear hb7 hr hop hbl hko
        go_wp2_with fail
        refine hK.out _ _ ⟨d0, d3⟩ (fun hHeld => ?_)
        clear hK K
        try simp only [Act.put, List.setIfInBounds_toArray, List.set_cons_zero, List.set_cons_succ]
        refine wpAnyH_ready (rs := [4]) (by kernel_rfl) (by simp) ?_
        refine AllReadyH.cons (o := { dst := some 44, op := Op.buildSlice 103 1 #[(0, Operand.tmp 43)], type := 103, pos := "view.go:197", after := #[{ on := 3, ground := Ground.data }], guard := none }) rfl (fun K hK => ?_) AllReadyH.nil
        rw [if_pos (by rfl)]
        refine wp_bslice _ rfl UQ rfl hUQs ?_
        refine hK.out _ _ ⟨x0, x3⟩ (fun hHeld => ?_)
        clear hK K
        try simp only [Act.put, List.setIfInBounds_toArray, List.set_cons_zero, List.set_cons_succ]
        refine wpAnyH_ready (rs := [5]) (by kernel_rfl) (by simp) ?_
        refine AllReadyH.cons (o := { dst := some 45, op := Op.call { callee := Callee.builtin Builtin.append, args := #[Operand.tmp 40, Operand.tmp 44], argTypes := #[103, 103] }, type := 103, pos := "view.go:197", after := #[{ on := 0, ground := Ground.data }, { on := 4, ground := Ground.data }, { on := 3, ground := Ground.chain }], guard := none }) rfl (fun K hK => ?_) AllReadyH.nil
        rw [if_pos (by rfl)]
        refine wp_app _ _ 103 rfl _ _ rfl rfl HR.out ?_
        refine hK.out _ _ ⟨q0, q3⟩ (fun hHeld => ?_)
        clear hK K
        try simp only [Act.put, List.setIfInBounds_toArray, List.set_cons_zero, List.set_cons_succ]
        refine wpAnyH_ready (rs := [6]) (by kernel_rfl) (by simp) ?_
        refine AllReadyH.cons (o := { dst := none, op := Op.store 103 (Operand.tmp 4) (Operand.tmp 45), type := 0, pos := "view.go:197", after := #[{ on := 5, ground := Ground.data }, { on := 5, ground := Ground.chain }, { on := 0, ground := Ground.phase }, { on := 1, ground := Ground.phase }, { on := 2, ground := Ground.phase }, { on := 3, ground := Ground.phase }, { on := 4, ground := Ground.phase }, { on := 5, ground := Ground.phase }], guard := none }) rfl (fun K hK => ?_) AllReadyH.nil
        clear hHeld
        go_simp
        refine hK.out _ _ ⟨(set_far (k := w.heap.size) (b := w.heap.size + 2) (by omega)).trans q0, (set_far (k := w.heap.size + 3) (b := w.heap.size + 2) (by omega)).trans q3⟩ (fun hHeld => ?_)
        clear hK K hHeld
        refine wpAnyH_done (by kernel_rfl) ?_ _
        gi_wp2
        refine ⟨HKo.out.trans (KeepsOthers.setCell _ _ _), rfl, svals pre, x, _, svals_snoc _ _, HQo.out, HB1.out, HA9.out.setR HW.out _, ?_⟩
        rw [HXo.out]
        have hl1 : (ans1 v Z ++ [updV v o]).length = (ans1 v Z).length + 1 := by simp
        have hp9 := HO9.out
        rw [hl1] at hp9
        refine OwnP.turn hp9 (fun k h1 _ => ?_)
        exact Below.heap_setCell W' ⟨w.heap.size + 2, 0, none⟩ _ _ (by show k ≠ w.heap.size + 2; omega)
      · have hgn : ev ≤ p.epoch := by omega
        have hgz : ¬ (p.epoch : Int) < (ev : Int) := by omega
        have hwb : wb v p x = false := by
          rw [HWb.out]
          have h1 := HEv.out
          have h2 := HO64.out
          by_cases c : o < 64
          · have h3 : ownZ o = (o : Int) := by unfold ownZ; rw [if_pos c]
            rw [h3, epI_in v c] at h1
            rw [h1]
            simp [hg]
          · have h3 : o = 64 := by omega
            rw [h3]
            simp
        have HQ2 := hid (HQn.out hwb)
        clear hwb hg
        gi_wp2_with (refine ⟨trivial, ?_⟩; gi_at_call 27; refine (CallsIn.inRound l (callsIn_wide.2 HOw.out)).mono ?_; rintro r w' ⟨rfl, hw'⟩; subst hw')
        refine region_round (S := fun W => W.cell? ⟨w.heap.size, 0, none⟩ = some (.pointer (some ⟨b, 0, none⟩)) ∧ W.cell? ⟨w.heap.size + 1, 1, none⟩ = some (.int .i64 (f : Int)) ∧ W.cell? ⟨w.heap.size + 1, 3, none⟩ = some (.int .u64 (p.epoch : Int))) (by kernel_rfl) (by rintro ⟨_, _, h⟩; exact h) (by kernel_rfl) ⟨c0, p1, p3⟩ (fun hHeld => ?_)
        refine wpAnyH_take (i := 0) (oi := { dst := some 28, op := Op.move (Operand.tmp 7), type := 3, pos := "view.go:196", after := #[], guard := none }) (v := .int .i64 z) rfl (by kernel_rfl) (by kernel_rfl) (by kernel_rfl) (fun _ _ _ h => h) (Or.inl ⟨by rfl, fun wS hSw => ?_⟩) (by assumption) ?_
        · clear hHeld
          clear hSw
          go_simp
        try simp only [Act.put, List.setIfInBounds_toArray, List.set_cons_zero, List.set_cons_succ]
        refine wpAnyH_take (i := 1) (oi := { dst := some 29, op := Op.fieldAddr 53 (Operand.tmp 3) 1, type := 0, pos := "view.go:196", after := #[], guard := none }) (v := .pointer (some ⟨w.heap.size + 1, 1, none⟩)) rfl (by kernel_rfl) (by kernel_rfl) (by kernel_rfl) (fun _ _ _ h => h) (Or.inl ⟨by rfl, fun wS hSw => ?_⟩) (by assumption) ?_
        · clear hHeld
          clear hSw
          go_simp
        try simp only [Act.put, List.setIfInBounds_toArray, List.set_cons_zero, List.set_cons_succ]
        refine wpAnyH_take (i := 2) (oi := { dst := some 30, op := Op.load 3 (Operand.tmp 29), type := 3, pos := "view.go:196", after := #[{ on := 1, ground := Ground.data }], guard := none }) (v := .int .i64 (f : Int)) rfl (by kernel_rfl) (by kernel_rfl) (by kernel_rfl) (fun _ _ _ h => h) (Or.inl ⟨by rfl, fun wS hSw => ?_⟩) (by assumption) ?_
        · clear hHeld
          obtain ⟨s0, s1, s2⟩ := hSw
          go_simp
        try simp only [Act.put, List.setIfInBounds_toArray, List.set_cons_zero, List.set_cons_succ]
        refine wpAnyH_take (i := 3) (oi := { dst := some 31, op := Op.binOp BinOp.neq 3 (Operand.tmp 28) (Operand.tmp 30) 3, type := 4, pos := "view.go:196", after := #[{ on := 0, ground := Ground.data }, { on := 2, ground := Ground.data }], guard := none }) (v := .bool true) rfl (by kernel_rfl) (by kernel_rfl) (by kernel_rfl) (fun _ _ _ h => h) (Or.inl ⟨by rfl, fun wS hSw => ?_⟩) (by assumption) ?_
        · clear hHeld
          have hzz := hzf2
          clear hSw
          go_simp
        try simp only [Act.put, List.setIfInBounds_toArray, List.set_cons_zero, List.set_cons_succ]
        refine wpAnyH_take (i := 4) (oi := { dst := some 32, op := Op.move (Operand.tmp 31), type := 4, pos := "view.go:196", after := #[{ on := 3, ground := Ground.data }], guard := none }) (v := .bool true) rfl (by kernel_rfl) (by kernel_rfl) (by kernel_rfl) (fun _ _ _ h => h) (Or.inl ⟨by rfl, fun wS hSw => ?_⟩) (by assumption) ?_
        · clear hHeld
          clear hSw
          go_simp
        try simp only [Act.put, List.setIfInBounds_toArray, List.set_cons_zero, List.set_cons_succ]
        refine wpAnyH_take (i := 5) (oi := { dst := some 33, op := Op.load 50 (Operand.tmp 2), type := 50, pos := "view.go:196", after := #[{ on := 4, ground := Ground.guard }], guard := some (4, true) }) (v := .pointer (some ⟨b, 0, none⟩)) rfl (by kernel_rfl) (by kernel_rfl) (by kernel_rfl) (fun _ _ _ h => h) (Or.inl ⟨by rfl, fun wS hSw => ?_⟩) (by assumption) ?_
        · clear hHeld
          obtain ⟨s0, s1, s2⟩ := hSw
          go_simp
        try simp only [Act.put, List.setIfInBounds_toArray, List.set_cons_zero, List.set_cons_succ]
        refine wpAnyH_take (i := 6) (oi := { dst := some 34, op := Op.move (Operand.tmp 7), type := 3, pos := "view.go:196", after := #[{ on := 4, ground := Ground.guard }], guard := some (4, true) }) (v := .int .i64 z) rfl (by kernel_rfl) (by kernel_rfl) (by kernel_rfl) (fun _ _ _ h => h) (Or.inl ⟨by rfl, fun wS hSw => ?_⟩) (by assumption) ?_
        · clear hHeld
          clear hSw
          go_simp
        try simp only [Act.put, List.setIfInBounds_toArray, List.set_cons_zero, List.set_cons_succ]
        refine wpAnyH_take (i := 8) (oi := { dst := some 36, op := Op.fieldAddr 53 (Operand.tmp 3) 3, type := 0, pos := "view.go:196", after := #[{ on := 4, ground := Ground.guard }], guard := some (4, true) }) (v := .pointer (some ⟨w.heap.size + 1, 3, none⟩)) rfl (by kernel_rfl) (by kernel_rfl) (by kernel_rfl) (fun _ _ _ h => h) (Or.inl ⟨by rfl, fun wS hSw => ?_⟩) (by assumption) ?_
        · clear hHeld
          clear hSw
          go_simp
        try simp only [Act.put, List.setIfInBounds_toArray, List.set_cons_zero, List.set_cons_succ]
        refine wpAnyH_take (i := 9) (oi := { dst := some 37, op := Op.load 22 (Operand.tmp 36), type := 22, pos := "view.go:196", after := #[{ on := 8, ground := Ground.data }, { on := 4, ground := Ground.guard }], guard := some (4, true) }) (v := .int .u64 (p.epoch : Int)) rfl (by kernel_rfl) (by kernel_rfl) (by kernel_rfl) (fun _ _ _ h => h) (Or.inl ⟨by rfl, fun wS hSw => ?_⟩) (by assumption) ?_
        · clear hHeld
          obtain ⟨s0, s1, s2⟩ := hSw
          go_simp
        try simp only [Act.put, List.setIfInBounds_toArray, List.set_cons_zero, List.set_cons_succ]
        refine wpAnyH_ready (rs := [7]) (by kernel_rfl) (by simp) ?_
        refine AllReadyH.cons (o := { dst := some 35, op := Op.call { callee := Callee.value (Operand.func 19), args := #[Operand.tmp 33, Operand.tmp 34], argTypes := #[50, 3] }, type := 22, pos := "view.go:196", after := #[{ on := 5, ground := Ground.data }, { on := 6, ground := Ground.data }, { on := 4, ground := Ground.chain }, { on := 4, ground := Ground.guard }], guard := some (4, true) }) rfl (fun K hK => ?_) AllReadyH.nil
        clear hHeld
        go_simp
        refine HEp.out.mono ?_; rintro r wz ⟨rfl, rfl⟩
        go_wp2_with fail
        refine hK.out _ _ ⟨c0, p1, p3⟩ (fun hHeld => ?_)
        clear hK K
        try simp only [Act.put, List.setIfInBounds_toArray, List.set_cons_zero, List.set_cons_succ]
        refine wpAnyH_take (i := 10) (oi := { dst := some 38, op := Op.binOp BinOp.gtr 22 (Operand.tmp 35) (Operand.tmp 37) 22, type := 4, pos := "view.go:196", after := #[{ on := 7, ground := Ground.data }, { on := 9, ground := Ground.data }, { on := 4, ground := Ground.guard }], guard := some (4, true) }) (v := .bool false) rfl (by kernel_rfl) (by kernel_rfl) (by kernel_rfl) (fun _ _ _ h => h) (Or.inl ⟨by rfl, fun wS hSw => ?_⟩) (by assumption) ?_
        · clear hHeld
          clear hSw
          go_simp
        try simp only [Act.put, List.setIfInBounds_toArray, List.set_cons_zero, List.set_cons_succ]
        refine wpAnyH_take (i := 11) (oi := { dst := some 39, op := Op.pick (Operand.tmp 32) (Operand.tmp 38) (Operand.const (Value.bool false)), type := 4, pos := "view.go:196", after := #[{ on := 4, ground := Ground.data }, { on := 10, ground := Ground.data }], guard := none }) (v := .bool false) rfl (by kernel_rfl) (by kernel_rfl) (by kernel_rfl) (fun _ _ _ h => h) (Or.inl ⟨by rfl, fun wS hSw => ?_⟩) (by assumption) ?_
        · clear hHeld
          clear hSw
          go_simp
        try simp only [Act.put, List.setIfInBounds_toArray, List.set_cons_zero, List.set_cons_succ]
        refine wpAnyH_done (by kernel_rfl) ?_ _
        clear hHeld
        gi_wp2
        exact ⟨KeepsOthers.drew _, kpb_only (Only.refl b w').drew, HQ2.out, HAw.out.drew, HPw.out.turn (fun _ _ _ => rfl)⟩
  case done =>
    rintro D ys W hD hS ⟨hq, hA, hP⟩ hK
    have HA8 := hid (hA.setR HW.out (.slice al NL cl))
    have HK8 := hid ((KeepsOthers.setCell W ⟨w.heap.size + 2, 0, none⟩ (.slice al NL cl)).same D _ hK rfl)
    have HP8 := hid (hP.turn (W' := W.setCell ⟨w.heap.size + 2, 0, none⟩ (.slice al NL cl)) (fun k h1 _ => Below.heap_setCell _ _ _ _ (by show k ≠ w.heap.size + 2; omega)))
    have HD8 := hid hD
    have HB8 := hid (beat_no (v := v) (p := p) (fun s hs => hq s (by rw [show svals ys = slots p.cl from hS]; exact hs)))
    obtain ⟨c0, c2, c3, f2, f3⟩ := hA.cells
    clear hK hA hP hq
    go_wp2_with fail
    refine ⟨by simp, .inl ⟨_, _, rfl, run_takeDeferred HK8.out, ?_⟩⟩
    generalize W.setCell ⟨w.heap.size + 2, 0, none⟩ (.slice al NL cl) = W8 at HA8 HK8 HP8 ⊢
    have hput := grownBy_putObj' W8 D (.deferred none)
    have hrow : ∀ r, some D = some r → W0.heap.size ≤ r ∧ ∃ o : Obj, W8.heap[r]? = some o ∧ o.isCells = false := fun r e => by cases e; exact ⟨HD8.out, _, HK8.out, rfl⟩
    have hA9 := HA8.out.kept HWs.out hput hrow
    refine ⟨.slice al NL cl, ret_cell1 rfl rfl hA9.cells.2.1, _, rfl, ?_, hA9.bel⟩
    rw [HB8.out, List.append_nil]
    exact (HP8.out.kept hput (fun r e => (hrow r e).2)).mono (by omega)
  case stop =>
    rintro D c pre W hD hSp ⟨hc, q, x, vr, h1, h2, h3, hA, hP⟩ hK
    subst hc
    have HB8 := hid (beat_first (v := v) (p := p) hSp h1 h2 h3)
    gi_wp2
    refine ⟨by simp, .inl ⟨_, _, rfl, run_takeDeferred hK, ?_⟩⟩
    have hput := grownBy_putObj' W D (.deferred none)
    have hrow : ∀ r, some D = some r → W0.heap.size ≤ r ∧ ∃ o : Obj, W.heap[r]? = some o ∧ o.isCells = false := fun r e => by cases e; exact ⟨hD, _, hK, rfl⟩
    have hA9 := hA.kept HWs.out hput hrow
    refine ⟨vr, ret_cell1 rfl rfl hA9.cells.2.1, _, rfl, ?_, hA9.bel⟩
    rw [HB8.out]
    exact (hP.kept hput (fun r e => (hrow r e).2)).mono (by omega)

end Go.Proofs.YtbfllifgmlkndaaGreatDoor
