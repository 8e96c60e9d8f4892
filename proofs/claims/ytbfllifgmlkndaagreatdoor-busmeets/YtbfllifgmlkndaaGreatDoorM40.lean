/- VpTk. -/
import Derived.Test.YtbfllifgmlkndaaGreatDoorM35
import Derived.Test.YtbfllifgmlkndaaGreatDoorM29
import Derived.Test.YtbfllifgmlkndaaGreatDoorM39
import Derived.Test.YtbfllifgmlkndaaGreatDoorM36
namespace Go.Proofs.YtbfllifgmlkndaaGreatDoor
open Go.RowKit Go.Shelf
open Slot

/-- a call of Take under way: the view, the packet in a block of its own -/
structure Tp (w wx : World) (b : Nat) (v : Vw) (p : Pk) : Prop where
  vb : VB wx b v
  pk : PBox wx w.heap.size p
  only : Only b w wx
theorem Tp.lt {w wx : World} {b : Nat} {v : Vw} {p : Pk} (h : Tp w wx b v p) : w.heap.size < wx.heap.size := h.pk.lt
theorem Tp.turn {w wx w' : World} {b : Nat} {v v' : Vw} {p : Pk} (h : Tp w wx b v p) (hv : VB w' b v') (ho : Only b wx w') (hb : b < w.heap.size) : Tp w w' b v' p :=
  ⟨hv, (ho.block _ h.pk.lt (by omega)).trans h.pk, h.only.trans ho⟩
theorem Tp.call {w wx w' : World} {b : Nat} {v : Vw} {p : Pk} (h : Tp w wx b v p) (hb : Below wx.heap.size wx w') : Tp w w' b v p :=
  ⟨h.vb.below hb h.vb.lt, h.pk.below hb h.pk.lt, h.only.trans (.of_below hb)⟩
theorem Tp.drew {w wx : World} {b : Nat} {v : Vw} {p : Pk} (h : Tp w wx b v p) : Tp w wx.drew b v p := ⟨h.vb.turn rfl, h.pk, h.only.drew⟩
theorem tp_new (w : World) (b : Nat) (v : Vw) (p : Pk) (h : VB w b v) : Tp w (w.alloc (.cells (pkCells p) 53)) b v p :=
  ⟨h.below (below_alloc w _) h.lt, pbox_new w p, .of_below (below_alloc w _)⟩
/-- what region 2 reads -/
def Sq (c b me C : Nat) (F : Int) (PC : Array Value) (W : World) : Prop := W.rangeAt c 0 PC.toList ∧ W.cell? ⟨c, 1, none⟩ = some (.int .i64 F) ∧ W.cell? ⟨c, 4, none⟩ = some (.int .u64 (C : Int)) ∧ W.cell? ⟨b, 0, none⟩ = some (.int .i64 (me : Int))
theorem Tp.sq {w wx : World} {b me C : Nat} {F : Int} {v : Vw} {p : Pk} {PC : Array Value} (h : Tp w wx b v p) (hm : v.self = me) (hF : p.frm = F) (hC : p.cur = C) (hP : pkCells p = PC) : Sq w.heap.size b me C F PC wx := by
  subst hm hF hC hP
  obtain ⟨_, p1, _, _, p4⟩ := h.pk.cells
  refine ⟨fun j v hv => ?_, p1, p4, h.vb.self_⟩
  rw [Nat.zero_add, cell_of_row _ _ _ _ _ _ h.pk]
  rwa [Array.getElem?_toList] at hv
def PTakeP (b : Nat) (v : Vw) (p : Pk) (w : World) (e : Ending) (w' : World) : Prop :=
  ∃ a, e = .returned a ∧ OwnP w.heap.size w' a (answV v p) ∧ VB w' b (takeV v p) ∧ Only b w w'
theorem ptake_no_end {b : Nat} {v : Vw} {p : Pk} {w w' : World} (h : seen v p = false) (hT : Tp w w' b v p) : PTakeP b v p w (.returned (.slice none 0 0)) w' := by
  have e1 : takeV v p = v := by unfold takeV; rw [h]; rfl
  have e2 : answV v p = [] := by unfold answV; rw [h, if_neg (fun c => Bool.false_ne_true c.1)]
  refine ⟨_, rfl, ?_, ?_, hT.only⟩
  · rw [e2]; exact ownp_nil _ _
  · rw [e1]; exact hT.vb
theorem ptake_upd_end {b : Nat} {v : Vw} {p : Pk} {w w' : World} (h : seen v p = true) (hk : p.kind = 3) (hT : Tp w w' b (take2 v p) p) : PTakeP b v p w (.returned (.slice none 0 0)) w' := by
  have e1 : takeV v p = take2 v p := by unfold takeV take3; rw [if_pos h, if_neg (fun c => c.1 hk)]
  have e2 : answV v p = [] := by unfold answV; rw [if_neg (fun c => c.2 hk)]
  refine ⟨_, rfl, ?_, ?_, hT.only⟩
  · rw [e2]; exact ownp_nil _ _
  · rw [e1]; exact hT.vb
theorem ptake_oth_end {b : Nat} {v : Vw} {p : Pk} {KD : Int} {w wB w' : World} {a : Value} (h : seen v p = true) (hK : p.kind = KD) (hk : p.kind ≠ 3) (hT : Tp w wB b (take3 v p) p)
    (ho : OwnP wB.heap.size w' a (ans1 (take3 v p) (KD == 1 || KD == 4) ++ (match beatV (take3 v p) p top 0 with
    | some o => [updV (take3 v p) o]
    | none => []))) (hb : Below wB.heap.size wB w') : PTakeP b v p w (.returned a) w' := by
  have e1 : takeV v p = take3 v p := by unfold takeV; rw [if_pos h]
  have hT2 := hT.call hb
  refine ⟨a, rfl, ?_, by rw [e1]; exact hT2.vb, hT2.only⟩
  have e2 : answV v p = ans1 (take3 v p) (KD == 1 || KD == 4) ++ (match beatV (take3 v p) p top 0 with
    | some o => [updV (take3 v p) o]
    | none => []) := by
    unfold answV
    rw [if_pos ⟨h, hk⟩, e1]
    unfold outV ans1
    by_cases c : p.kind = 1 ∨ p.kind = 4
    · have c2 : (KD == 1 || KD == 4) = true := by rw [← hK]; rcases c with c | c <;> rw [c] <;> rfl
      rw [if_pos c, if_pos c2]; rfl
    · have c2 : ¬ (KD == 1 || KD == 4) = true := by rw [← hK, Bool.or_eq_true, beq_iff_eq, beq_iff_eq]; exact c
      rw [if_neg c, if_neg c2]; rfl
  rw [e2]
  exact ho.mono (Nat.le_of_lt hT.lt)

set_option maxHeartbeats 4000000 in
set_option maxRecDepth 100000 in
theorem ptake_core (b me C EP n : Nat) (v : Vw) (p : Pk) (R B : Bool) (KD F N : Int) (w : World) (hV : VB w b v) (hm : v.self = me) (hk : p.kind = KD) (hf : p.frm = F) (hc : p.cur = C) (he : p.epoch = EP) (hR : rightP p = R) (hCl : clI p = N)
    (hB : B = (!R || decide (4611686018427387904 < C) || F == (me : Int) || N == (me : Int))) (hno : B = true → seen v p = false) (hyes : B = false → seen v p = true ∧ N = (n : Int) ∧ ofN p = n ∧ n < 64)
    (hO : v.Ok 1000000) :
    Calls Tryz.prog 44 #[.pointer (some ⟨b, 0, none⟩), .agg (pkCells p)] w (PTakeP b v p w) := by
  have hw := hV.lt
  have HT0 := hid (tp_new w b v p hV)
  have HRt : Hid (∀ W, Calls Tryz.prog 70 #[.agg (pkCells p)] W fun e w' => e = .returned (.bool R) ∧ Below W.heap.size W w') := fun W => by
    have := right_any p W
    rwa [hR] at this
  have HCl : Hid (∀ W, Calls Tryz.prog 69 #[.agg (pkCells p)] W fun e w' => e = .returned (.int .i64 N) ∧ Below W.heap.size W w') := fun W => by
    have := claimant_any p W
    rwa [hCl] at this
  have HNo := hid hno
  have HYes := hid hyes
  have HOk := hid hO
  have HW := hid hw
  obtain ⟨PC, hPC⟩ : ∃ C, pkCells p = C := ⟨_, rfl⟩
  have HSq : Hid (∀ W, Tp w W b v p → Sq w.heap.size b me C F PC W) := fun W h => h.sq hm hf hc hPC
  have iP : (Tryz.prog.info? 53).map (·.size) = some PC.toList.length := by rw [← hPC]; exact infoPl p
  have iP2 : (Tryz.prog.info? 53).map (·.size) = some PC.size := by rw [← hPC]; exact infoPk p
  have HPk : Hid (∀ W c, PBox W c p → W.heap[c]? = some (.cells PC 53 (0, 0))) := fun W c h => by rw [← hPC]; exact h
  have HM := hid (And.intro hm (And.intro hk (And.intro hf (And.intro hc he))))
  have HPC := hid hPC
  rw [hPC] at HT0 HRt HCl ⊢
  have hB0 := hB
  clear hno hyes hO hw hPC hR hCl hV hm hk hf hc he hB
  have HB0 := hid hB0
  clear hB0
  go_enter Tryz.func44, Tryz.ntmps44
  go_upto_region 1 with fail
  generalize w.alloc (.cells PC 53) = w1 at *
  have HP0 := hid (HPk.out _ _ HT0.out.pk)
  go_wp2_with (refine wpList_load_row rfl 53 _ rfl w.heap.size rfl 53 _ (0, 0) _ HP0.out Tryz.underlying53 rfl iP2 (Hid.out ?_))
  refine hid ?_
  go_upto_region 2 with fail
  refine (HCl.out _).mono ?_; rintro e w2 ⟨rfl, hb2⟩
  have HT2 := hid (HT0.out.call hb2)
  clear hb2 HT0 HP0
  go_upto_region 2 with fail
  go_cut [32] (fun c wx => c = .bool B ∧ Hid (Tp w wx b v p))
  case first =>
    have u44 := Tryz.underlying53
    refine wp_region_held_drew (S := Sq w.heap.size b me C F PC) (by kernel_rfl) (HSq.out _ HT2.out.drew) (fun hHeld => ?_)
    cases R with
    | false =>
      have HB : Hid (B = true) := by show _ = _; rw [HB0.out]; simp

      refine wpAnyH_take (i := 0) (oi := { dst := some 8, op := Op.load 53 (Operand.tmp 3), type := 53, pos := "view.go:71", after := #[], guard := none }) (v := .agg PC) rfl (by kernel_rfl) (by kernel_rfl) (by kernel_rfl) (fun _ _ _ h => h) (yieldsIf_load_arr Array.toArray_toList (by rfl) _ _ rfl _ _ rfl (fun _ h => h.1) u44 rfl iP) (by assumption) ?_
      try simp only [Act.put, List.setIfInBounds_toArray, List.set_cons_zero, List.set_cons_succ]
      refine wpAnyH_ready (rs := [1]) (by kernel_rfl) (by simp) ?_
      refine AllReadyH.cons (o := { dst := some 9, op := Op.call { callee := Callee.value (Operand.func 70), args := #[Operand.tmp 8], argTypes := #[53] }, type := 4, pos := "view.go:71", after := #[{ on := 0, ground := Ground.data }], guard := none }) rfl (fun K hK => ?_) AllReadyH.nil
      clear hHeld
      go_simp
      refine (HRt.out _).mono ?_; rintro e w3 ⟨rfl, hb3⟩
      have HT3 := hid (HT2.out.drew.call hb3)
      clear hb3
      go_wp2_with fail
      refine hK.out _ _ (HSq.out _ HT3.out) (fun hHeld => ?_)
      clear hK K
      try simp only [Act.put, List.setIfInBounds_toArray, List.set_cons_zero, List.set_cons_succ]
      refine wpAnyH_take (i := 2) (oi := { dst := some 10, op := Op.unOp UnOp.not 4 (Operand.tmp 9), type := 4, pos := "view.go:71", after := #[{ on := 1, ground := Ground.data }], guard := none }) (v := .bool true) rfl (by kernel_rfl) (by kernel_rfl) (by kernel_rfl) (fun _ _ _ h => h) (Or.inl ⟨by rfl, fun wS hSw => ?_⟩) (by assumption) ?_
      · clear hHeld
        clear hSw
        go_simp
      try simp only [Act.put, List.setIfInBounds_toArray, List.set_cons_zero, List.set_cons_succ]
      refine wpAnyH_take (i := 3) (oi := { dst := some 11, op := Op.move (Operand.tmp 10), type := 4, pos := "view.go:71", after := #[{ on := 2, ground := Ground.data }, { on := 1, ground := Ground.chain }], guard := none }) (v := .bool true) rfl (by kernel_rfl) (by kernel_rfl) (by kernel_rfl) (fun _ _ _ h => h) (Or.inl ⟨by rfl, fun wS hSw => ?_⟩) (by assumption) ?_
      · clear hHeld
        clear hSw
        go_simp
      try simp only [Act.put, List.setIfInBounds_toArray, List.set_cons_zero, List.set_cons_succ]
      refine wpAnyH_take (i := 4) (oi := { dst := some 12, op := Op.fieldAddr 53 (Operand.tmp 3) 4, type := 0, pos := "view.go:71", after := #[{ on := 3, ground := Ground.guard }], guard := some (3, false) }) (v := undef) rfl (by kernel_rfl) (by kernel_rfl) (by kernel_rfl) (fun _ _ _ h => h) (Or.inr ⟨by rfl, rfl⟩) (by assumption) ?_
      try simp only [Act.put, List.setIfInBounds_toArray, List.set_cons_zero, List.set_cons_succ]
      refine wpAnyH_take (i := 5) (oi := { dst := some 13, op := Op.load 22 (Operand.tmp 12), type := 22, pos := "view.go:71", after := #[{ on := 4, ground := Ground.data }, { on := 3, ground := Ground.guard }], guard := some (3, false) }) (v := undef) rfl (by kernel_rfl) (by kernel_rfl) (by kernel_rfl) (fun _ _ _ h => h) (Or.inr ⟨by rfl, rfl⟩) (by assumption) ?_
      try simp only [Act.put, List.setIfInBounds_toArray, List.set_cons_zero, List.set_cons_succ]
      refine wpAnyH_take (i := 6) (oi := { dst := some 14, op := Op.binOp BinOp.gtr 22 (Operand.tmp 13) (Operand.const (Value.int IntKind.u64 4611686018427387904)) 22, type := 4, pos := "view.go:71", after := #[{ on := 5, ground := Ground.data }, { on := 3, ground := Ground.guard }], guard := some (3, false) }) (v := undef) rfl (by kernel_rfl) (by kernel_rfl) (by kernel_rfl) (fun _ _ _ h => h) (Or.inr ⟨by rfl, rfl⟩) (by assumption) ?_
      try simp only [Act.put, List.setIfInBounds_toArray, List.set_cons_zero, List.set_cons_succ]
      refine wpAnyH_take (i := 7) (oi := { dst := some 15, op := Op.pick (Operand.tmp 11) (Operand.const (Value.bool true)) (Operand.tmp 14), type := 4, pos := "view.go:71", after := #[{ on := 3, ground := Ground.data }, { on := 6, ground := Ground.data }], guard := none }) (v := .bool true) rfl (by kernel_rfl) (by kernel_rfl) (by kernel_rfl) (fun _ _ _ h => h) (Or.inl ⟨by rfl, fun wS hSw => ?_⟩) (by assumption) ?_
      · clear hHeld
        clear hSw
        go_simp
      try simp only [Act.put, List.setIfInBounds_toArray, List.set_cons_zero, List.set_cons_succ]
      refine wpAnyH_take (i := 8) (oi := { dst := some 16, op := Op.move (Operand.tmp 15), type := 4, pos := "view.go:71", after := #[{ on := 7, ground := Ground.data }, { on := 3, ground := Ground.chain }], guard := none }) (v := .bool true) rfl (by kernel_rfl) (by kernel_rfl) (by kernel_rfl) (fun _ _ _ h => h) (Or.inl ⟨by rfl, fun wS hSw => ?_⟩) (by assumption) ?_
      · clear hHeld
        clear hSw
        go_simp
      try simp only [Act.put, List.setIfInBounds_toArray, List.set_cons_zero, List.set_cons_succ]
      refine wpAnyH_take (i := 9) (oi := { dst := some 17, op := Op.fieldAddr 53 (Operand.tmp 3) 1, type := 0, pos := "view.go:71", after := #[{ on := 8, ground := Ground.guard }], guard := some (8, false) }) (v := undef) rfl (by kernel_rfl) (by kernel_rfl) (by kernel_rfl) (fun _ _ _ h => h) (Or.inr ⟨by rfl, rfl⟩) (by assumption) ?_
      try simp only [Act.put, List.setIfInBounds_toArray, List.set_cons_zero, List.set_cons_succ]
      refine wpAnyH_take (i := 10) (oi := { dst := some 18, op := Op.load 3 (Operand.tmp 17), type := 3, pos := "view.go:71", after := #[{ on := 9, ground := Ground.data }, { on := 8, ground := Ground.guard }], guard := some (8, false) }) (v := undef) rfl (by kernel_rfl) (by kernel_rfl) (by kernel_rfl) (fun _ _ _ h => h) (Or.inr ⟨by rfl, rfl⟩) (by assumption) ?_
      try simp only [Act.put, List.setIfInBounds_toArray, List.set_cons_zero, List.set_cons_succ]
      refine wpAnyH_take (i := 11) (oi := { dst := some 19, op := Op.move (Operand.tmp 0), type := 50, pos := "view.go:71", after := #[{ on := 8, ground := Ground.guard }], guard := some (8, false) }) (v := undef) rfl (by kernel_rfl) (by kernel_rfl) (by kernel_rfl) (fun _ _ _ h => h) (Or.inr ⟨by rfl, rfl⟩) (by assumption) ?_
      try simp only [Act.put, List.setIfInBounds_toArray, List.set_cons_zero, List.set_cons_succ]
      refine wpAnyH_take (i := 12) (oi := { dst := some 20, op := Op.nilCheck (Operand.tmp 19), type := 0, pos := "view.go:71", after := #[{ on := 11, ground := Ground.data }, { on := 8, ground := Ground.guard }], guard := some (8, false) }) (v := undef) rfl (by kernel_rfl) (by kernel_rfl) (by kernel_rfl) (fun _ _ _ h => h) (Or.inr ⟨by rfl, rfl⟩) (by assumption) ?_
      try simp only [Act.put, List.setIfInBounds_toArray, List.set_cons_zero, List.set_cons_succ]
      refine wpAnyH_take (i := 13) (oi := { dst := some 21, op := Op.fieldAddr 109 (Operand.tmp 20) 0, type := 0, pos := "view.go:71", after := #[{ on := 12, ground := Ground.data }, { on := 8, ground := Ground.guard }], guard := some (8, false) }) (v := undef) rfl (by kernel_rfl) (by kernel_rfl) (by kernel_rfl) (fun _ _ _ h => h) (Or.inr ⟨by rfl, rfl⟩) (by assumption) ?_
      try simp only [Act.put, List.setIfInBounds_toArray, List.set_cons_zero, List.set_cons_succ]
      refine wpAnyH_take (i := 14) (oi := { dst := some 22, op := Op.load 3 (Operand.tmp 21), type := 3, pos := "view.go:71", after := #[{ on := 13, ground := Ground.data }, { on := 8, ground := Ground.guard }], guard := some (8, false) }) (v := undef) rfl (by kernel_rfl) (by kernel_rfl) (by kernel_rfl) (fun _ _ _ h => h) (Or.inr ⟨by rfl, rfl⟩) (by assumption) ?_
      try simp only [Act.put, List.setIfInBounds_toArray, List.set_cons_zero, List.set_cons_succ]
      refine wpAnyH_take (i := 15) (oi := { dst := some 23, op := Op.binOp BinOp.eql 3 (Operand.tmp 18) (Operand.tmp 22) 3, type := 4, pos := "view.go:71", after := #[{ on := 10, ground := Ground.data }, { on := 14, ground := Ground.data }, { on := 8, ground := Ground.guard }], guard := some (8, false) }) (v := undef) rfl (by kernel_rfl) (by kernel_rfl) (by kernel_rfl) (fun _ _ _ h => h) (Or.inr ⟨by rfl, rfl⟩) (by assumption) ?_
      try simp only [Act.put, List.setIfInBounds_toArray, List.set_cons_zero, List.set_cons_succ]
      refine wpAnyH_take (i := 16) (oi := { dst := some 24, op := Op.pick (Operand.tmp 16) (Operand.const (Value.bool true)) (Operand.tmp 23), type := 4, pos := "view.go:71", after := #[{ on := 8, ground := Ground.data }, { on := 15, ground := Ground.data }], guard := none }) (v := .bool true) rfl (by kernel_rfl) (by kernel_rfl) (by kernel_rfl) (fun _ _ _ h => h) (Or.inl ⟨by rfl, fun wS hSw => ?_⟩) (by assumption) ?_
      · clear hHeld
        clear hSw
        go_simp
      try simp only [Act.put, List.setIfInBounds_toArray, List.set_cons_zero, List.set_cons_succ]
      refine wpAnyH_take (i := 17) (oi := { dst := some 25, op := Op.move (Operand.tmp 24), type := 4, pos := "view.go:71", after := #[{ on := 16, ground := Ground.data }, { on := 8, ground := Ground.chain }], guard := none }) (v := .bool true) rfl (by kernel_rfl) (by kernel_rfl) (by kernel_rfl) (fun _ _ _ h => h) (Or.inl ⟨by rfl, fun wS hSw => ?_⟩) (by assumption) ?_
      · clear hHeld
        clear hSw
        go_simp
      try simp only [Act.put, List.setIfInBounds_toArray, List.set_cons_zero, List.set_cons_succ]
      refine wpAnyH_take (i := 18) (oi := { dst := some 26, op := Op.move (Operand.tmp 5), type := 3, pos := "view.go:71", after := #[{ on := 17, ground := Ground.guard }], guard := some (17, false) }) (v := undef) rfl (by kernel_rfl) (by kernel_rfl) (by kernel_rfl) (fun _ _ _ h => h) (Or.inr ⟨by rfl, rfl⟩) (by assumption) ?_
      try simp only [Act.put, List.setIfInBounds_toArray, List.set_cons_zero, List.set_cons_succ]
      refine wpAnyH_take (i := 19) (oi := { dst := some 27, op := Op.move (Operand.tmp 0), type := 50, pos := "view.go:71", after := #[{ on := 17, ground := Ground.guard }], guard := some (17, false) }) (v := undef) rfl (by kernel_rfl) (by kernel_rfl) (by kernel_rfl) (fun _ _ _ h => h) (Or.inr ⟨by rfl, rfl⟩) (by assumption) ?_
      try simp only [Act.put, List.setIfInBounds_toArray, List.set_cons_zero, List.set_cons_succ]
      refine wpAnyH_take (i := 20) (oi := { dst := some 28, op := Op.nilCheck (Operand.tmp 27), type := 0, pos := "view.go:71", after := #[{ on := 19, ground := Ground.data }, { on := 17, ground := Ground.guard }], guard := some (17, false) }) (v := undef) rfl (by kernel_rfl) (by kernel_rfl) (by kernel_rfl) (fun _ _ _ h => h) (Or.inr ⟨by rfl, rfl⟩) (by assumption) ?_
      try simp only [Act.put, List.setIfInBounds_toArray, List.set_cons_zero, List.set_cons_succ]
      refine wpAnyH_take (i := 21) (oi := { dst := some 29, op := Op.fieldAddr 109 (Operand.tmp 28) 0, type := 0, pos := "view.go:71", after := #[{ on := 20, ground := Ground.data }, { on := 17, ground := Ground.guard }], guard := some (17, false) }) (v := undef) rfl (by kernel_rfl) (by kernel_rfl) (by kernel_rfl) (fun _ _ _ h => h) (Or.inr ⟨by rfl, rfl⟩) (by assumption) ?_
      try simp only [Act.put, List.setIfInBounds_toArray, List.set_cons_zero, List.set_cons_succ]
      refine wpAnyH_take (i := 22) (oi := { dst := some 30, op := Op.load 3 (Operand.tmp 29), type := 3, pos := "view.go:71", after := #[{ on := 21, ground := Ground.data }, { on := 17, ground := Ground.guard }], guard := some (17, false) }) (v := undef) rfl (by kernel_rfl) (by kernel_rfl) (by kernel_rfl) (fun _ _ _ h => h) (Or.inr ⟨by rfl, rfl⟩) (by assumption) ?_
      try simp only [Act.put, List.setIfInBounds_toArray, List.set_cons_zero, List.set_cons_succ]
      refine wpAnyH_take (i := 23) (oi := { dst := some 31, op := Op.binOp BinOp.eql 3 (Operand.tmp 26) (Operand.tmp 30) 3, type := 4, pos := "view.go:71", after := #[{ on := 18, ground := Ground.data }, { on := 22, ground := Ground.data }, { on := 17, ground := Ground.guard }], guard := some (17, false) }) (v := undef) rfl (by kernel_rfl) (by kernel_rfl) (by kernel_rfl) (fun _ _ _ h => h) (Or.inr ⟨by rfl, rfl⟩) (by assumption) ?_
      try simp only [Act.put, List.setIfInBounds_toArray, List.set_cons_zero, List.set_cons_succ]
      refine wpAnyH_take (i := 24) (oi := { dst := some 32, op := Op.pick (Operand.tmp 25) (Operand.const (Value.bool true)) (Operand.tmp 31), type := 4, pos := "view.go:71", after := #[{ on := 17, ground := Ground.data }, { on := 23, ground := Ground.data }], guard := none }) (v := .bool true) rfl (by kernel_rfl) (by kernel_rfl) (by kernel_rfl) (fun _ _ _ h => h) (Or.inl ⟨by rfl, fun wS hSw => ?_⟩) (by assumption) ?_
      · clear hHeld
        clear hSw
        go_simp
      try simp only [Act.put, List.setIfInBounds_toArray, List.set_cons_zero, List.set_cons_succ]
      refine wpAnyH_done (by kernel_rfl) ?_ _
      clear hHeld
      go_wp2_with fail
      go_meet
      exact ⟨by rw [HB.out], HT3.out⟩

    | true =>
      by_cases hc : 4611686018427387904 < C
      · have hC : (4611686018427387904 : Int) < (C : Int) := by omega
        have HB : Hid (B = true) := by show _ = _; rw [HB0.out, decide_eq_true hc]; simp

        refine wpAnyH_take (i := 0) (oi := { dst := some 8, op := Op.load 53 (Operand.tmp 3), type := 53, pos := "view.go:71", after := #[], guard := none }) (v := .agg PC) rfl (by kernel_rfl) (by kernel_rfl) (by kernel_rfl) (fun _ _ _ h => h) (yieldsIf_load_arr Array.toArray_toList (by rfl) _ _ rfl _ _ rfl (fun _ h => h.1) u44 rfl iP) (by assumption) ?_
        try simp only [Act.put, List.setIfInBounds_toArray, List.set_cons_zero, List.set_cons_succ]
        refine wpAnyH_ready (rs := [1]) (by kernel_rfl) (by simp) ?_
        refine AllReadyH.cons (o := { dst := some 9, op := Op.call { callee := Callee.value (Operand.func 70), args := #[Operand.tmp 8], argTypes := #[53] }, type := 4, pos := "view.go:71", after := #[{ on := 0, ground := Ground.data }], guard := none }) rfl (fun K hK => ?_) AllReadyH.nil
        clear hHeld
        go_simp
        refine (HRt.out _).mono ?_; rintro e w3 ⟨rfl, hb3⟩
        have HT3 := hid (HT2.out.drew.call hb3)
        clear hb3
        go_wp2_with fail
        refine hK.out _ _ (HSq.out _ HT3.out) (fun hHeld => ?_)
        clear hK K
        try simp only [Act.put, List.setIfInBounds_toArray, List.set_cons_zero, List.set_cons_succ]
        refine wpAnyH_take (i := 2) (oi := { dst := some 10, op := Op.unOp UnOp.not 4 (Operand.tmp 9), type := 4, pos := "view.go:71", after := #[{ on := 1, ground := Ground.data }], guard := none }) (v := .bool false) rfl (by kernel_rfl) (by kernel_rfl) (by kernel_rfl) (fun _ _ _ h => h) (Or.inl ⟨by rfl, fun wS hSw => ?_⟩) (by assumption) ?_
        · clear hHeld
          clear hSw
          go_simp
        try simp only [Act.put, List.setIfInBounds_toArray, List.set_cons_zero, List.set_cons_succ]
        refine wpAnyH_take (i := 3) (oi := { dst := some 11, op := Op.move (Operand.tmp 10), type := 4, pos := "view.go:71", after := #[{ on := 2, ground := Ground.data }, { on := 1, ground := Ground.chain }], guard := none }) (v := .bool false) rfl (by kernel_rfl) (by kernel_rfl) (by kernel_rfl) (fun _ _ _ h => h) (Or.inl ⟨by rfl, fun wS hSw => ?_⟩) (by assumption) ?_
        · clear hHeld
          clear hSw
          go_simp
        try simp only [Act.put, List.setIfInBounds_toArray, List.set_cons_zero, List.set_cons_succ]
        refine wpAnyH_take (i := 4) (oi := { dst := some 12, op := Op.fieldAddr 53 (Operand.tmp 3) 4, type := 0, pos := "view.go:71", after := #[{ on := 3, ground := Ground.guard }], guard := some (3, false) }) (v := .pointer (some ⟨w.heap.size, 4, none⟩)) rfl (by kernel_rfl) (by kernel_rfl) (by kernel_rfl) (fun _ _ _ h => h) (Or.inl ⟨by rfl, fun wS hSw => ?_⟩) (by assumption) ?_
        · clear hHeld
          clear hSw
          go_simp
        try simp only [Act.put, List.setIfInBounds_toArray, List.set_cons_zero, List.set_cons_succ]
        refine wpAnyH_take (i := 5) (oi := { dst := some 13, op := Op.load 22 (Operand.tmp 12), type := 22, pos := "view.go:71", after := #[{ on := 4, ground := Ground.data }, { on := 3, ground := Ground.guard }], guard := some (3, false) }) (v := .int .u64 (C : Int)) rfl (by kernel_rfl) (by kernel_rfl) (by kernel_rfl) (fun _ _ _ h => h) (Or.inl ⟨by rfl, fun wS hSw => ?_⟩) (by assumption) ?_
        · clear hHeld
          obtain ⟨s0, s1, s4, s5⟩ := hSw
          go_simp
        try simp only [Act.put, List.setIfInBounds_toArray, List.set_cons_zero, List.set_cons_succ]
        refine wpAnyH_take (i := 6) (oi := { dst := some 14, op := Op.binOp BinOp.gtr 22 (Operand.tmp 13) (Operand.const (Value.int IntKind.u64 4611686018427387904)) 22, type := 4, pos := "view.go:71", after := #[{ on := 5, ground := Ground.data }, { on := 3, ground := Ground.guard }], guard := some (3, false) }) (v := .bool true) rfl (by kernel_rfl) (by kernel_rfl) (by kernel_rfl) (fun _ _ _ h => h) (Or.inl ⟨by rfl, fun wS hSw => ?_⟩) (by assumption) ?_
        · clear hHeld
          have hCC := hC
          clear hSw
          go_simp
        try simp only [Act.put, List.setIfInBounds_toArray, List.set_cons_zero, List.set_cons_succ]
        refine wpAnyH_take (i := 7) (oi := { dst := some 15, op := Op.pick (Operand.tmp 11) (Operand.const (Value.bool true)) (Operand.tmp 14), type := 4, pos := "view.go:71", after := #[{ on := 3, ground := Ground.data }, { on := 6, ground := Ground.data }], guard := none }) (v := .bool true) rfl (by kernel_rfl) (by kernel_rfl) (by kernel_rfl) (fun _ _ _ h => h) (Or.inl ⟨by rfl, fun wS hSw => ?_⟩) (by assumption) ?_
        · clear hHeld
          clear hSw
          go_simp
        try simp only [Act.put, List.setIfInBounds_toArray, List.set_cons_zero, List.set_cons_succ]
        refine wpAnyH_take (i := 8) (oi := { dst := some 16, op := Op.move (Operand.tmp 15), type := 4, pos := "view.go:71", after := #[{ on := 7, ground := Ground.data }, { on := 3, ground := Ground.chain }], guard := none }) (v := .bool true) rfl (by kernel_rfl) (by kernel_rfl) (by kernel_rfl) (fun _ _ _ h => h) (Or.inl ⟨by rfl, fun wS hSw => ?_⟩) (by assumption) ?_
        · clear hHeld
          clear hSw
          go_simp
        try simp only [Act.put, List.setIfInBounds_toArray, List.set_cons_zero, List.set_cons_succ]
        refine wpAnyH_take (i := 9) (oi := { dst := some 17, op := Op.fieldAddr 53 (Operand.tmp 3) 1, type := 0, pos := "view.go:71", after := #[{ on := 8, ground := Ground.guard }], guard := some (8, false) }) (v := undef) rfl (by kernel_rfl) (by kernel_rfl) (by kernel_rfl) (fun _ _ _ h => h) (Or.inr ⟨by rfl, rfl⟩) (by assumption) ?_
        try simp only [Act.put, List.setIfInBounds_toArray, List.set_cons_zero, List.set_cons_succ]
        refine wpAnyH_take (i := 10) (oi := { dst := some 18, op := Op.load 3 (Operand.tmp 17), type := 3, pos := "view.go:71", after := #[{ on := 9, ground := Ground.data }, { on := 8, ground := Ground.guard }], guard := some (8, false) }) (v := undef) rfl (by kernel_rfl) (by kernel_rfl) (by kernel_rfl) (fun _ _ _ h => h) (Or.inr ⟨by rfl, rfl⟩) (by assumption) ?_
        try simp only [Act.put, List.setIfInBounds_toArray, List.set_cons_zero, List.set_cons_succ]
        refine wpAnyH_take (i := 11) (oi := { dst := some 19, op := Op.move (Operand.tmp 0), type := 50, pos := "view.go:71", after := #[{ on := 8, ground := Ground.guard }], guard := some (8, false) }) (v := undef) rfl (by kernel_rfl) (by kernel_rfl) (by kernel_rfl) (fun _ _ _ h => h) (Or.inr ⟨by rfl, rfl⟩) (by assumption) ?_
        try simp only [Act.put, List.setIfInBounds_toArray, List.set_cons_zero, List.set_cons_succ]
        refine wpAnyH_take (i := 12) (oi := { dst := some 20, op := Op.nilCheck (Operand.tmp 19), type := 0, pos := "view.go:71", after := #[{ on := 11, ground := Ground.data }, { on := 8, ground := Ground.guard }], guard := some (8, false) }) (v := undef) rfl (by kernel_rfl) (by kernel_rfl) (by kernel_rfl) (fun _ _ _ h => h) (Or.inr ⟨by rfl, rfl⟩) (by assumption) ?_
        try simp only [Act.put, List.setIfInBounds_toArray, List.set_cons_zero, List.set_cons_succ]
        refine wpAnyH_take (i := 13) (oi := { dst := some 21, op := Op.fieldAddr 109 (Operand.tmp 20) 0, type := 0, pos := "view.go:71", after := #[{ on := 12, ground := Ground.data }, { on := 8, ground := Ground.guard }], guard := some (8, false) }) (v := undef) rfl (by kernel_rfl) (by kernel_rfl) (by kernel_rfl) (fun _ _ _ h => h) (Or.inr ⟨by rfl, rfl⟩) (by assumption) ?_
        try simp only [Act.put, List.setIfInBounds_toArray, List.set_cons_zero, List.set_cons_succ]
        refine wpAnyH_take (i := 14) (oi := { dst := some 22, op := Op.load 3 (Operand.tmp 21), type := 3, pos := "view.go:71", after := #[{ on := 13, ground := Ground.data }, { on := 8, ground := Ground.guard }], guard := some (8, false) }) (v := undef) rfl (by kernel_rfl) (by kernel_rfl) (by kernel_rfl) (fun _ _ _ h => h) (Or.inr ⟨by rfl, rfl⟩) (by assumption) ?_
        try simp only [Act.put, List.setIfInBounds_toArray, List.set_cons_zero, List.set_cons_succ]
        refine wpAnyH_take (i := 15) (oi := { dst := some 23, op := Op.binOp BinOp.eql 3 (Operand.tmp 18) (Operand.tmp 22) 3, type := 4, pos := "view.go:71", after := #[{ on := 10, ground := Ground.data }, { on := 14, ground := Ground.data }, { on := 8, ground := Ground.guard }], guard := some (8, false) }) (v := undef) rfl (by kernel_rfl) (by kernel_rfl) (by kernel_rfl) (fun _ _ _ h => h) (Or.inr ⟨by rfl, rfl⟩) (by assumption) ?_
        try simp only [Act.put, List.setIfInBounds_toArray, List.set_cons_zero, List.set_cons_succ]
        refine wpAnyH_take (i := 16) (oi := { dst := some 24, op := Op.pick (Operand.tmp 16) (Operand.const (Value.bool true)) (Operand.tmp 23), type := 4, pos := "view.go:71", after := #[{ on := 8, ground := Ground.data }, { on := 15, ground := Ground.data }], guard := none }) (v := .bool true) rfl (by kernel_rfl) (by kernel_rfl) (by kernel_rfl) (fun _ _ _ h => h) (Or.inl ⟨by rfl, fun wS hSw => ?_⟩) (by assumption) ?_
        · clear hHeld
          clear hSw
          go_simp
        try simp only [Act.put, List.setIfInBounds_toArray, List.set_cons_zero, List.set_cons_succ]
        refine wpAnyH_take (i := 17) (oi := { dst := some 25, op := Op.move (Operand.tmp 24), type := 4, pos := "view.go:71", after := #[{ on := 16, ground := Ground.data }, { on := 8, ground := Ground.chain }], guard := none }) (v := .bool true) rfl (by kernel_rfl) (by kernel_rfl) (by kernel_rfl) (fun _ _ _ h => h) (Or.inl ⟨by rfl, fun wS hSw => ?_⟩) (by assumption) ?_
        · clear hHeld
          clear hSw
          go_simp
        try simp only [Act.put, List.setIfInBounds_toArray, List.set_cons_zero, List.set_cons_succ]
        refine wpAnyH_take (i := 18) (oi := { dst := some 26, op := Op.move (Operand.tmp 5), type := 3, pos := "view.go:71", after := #[{ on := 17, ground := Ground.guard }], guard := some (17, false) }) (v := undef) rfl (by kernel_rfl) (by kernel_rfl) (by kernel_rfl) (fun _ _ _ h => h) (Or.inr ⟨by rfl, rfl⟩) (by assumption) ?_
        try simp only [Act.put, List.setIfInBounds_toArray, List.set_cons_zero, List.set_cons_succ]
        refine wpAnyH_take (i := 19) (oi := { dst := some 27, op := Op.move (Operand.tmp 0), type := 50, pos := "view.go:71", after := #[{ on := 17, ground := Ground.guard }], guard := some (17, false) }) (v := undef) rfl (by kernel_rfl) (by kernel_rfl) (by kernel_rfl) (fun _ _ _ h => h) (Or.inr ⟨by rfl, rfl⟩) (by assumption) ?_
        try simp only [Act.put, List.setIfInBounds_toArray, List.set_cons_zero, List.set_cons_succ]
        refine wpAnyH_take (i := 20) (oi := { dst := some 28, op := Op.nilCheck (Operand.tmp 27), type := 0, pos := "view.go:71", after := #[{ on := 19, ground := Ground.data }, { on := 17, ground := Ground.guard }], guard := some (17, false) }) (v := undef) rfl (by kernel_rfl) (by kernel_rfl) (by kernel_rfl) (fun _ _ _ h => h) (Or.inr ⟨by rfl, rfl⟩) (by assumption) ?_
        try simp only [Act.put, List.setIfInBounds_toArray, List.set_cons_zero, List.set_cons_succ]
        refine wpAnyH_take (i := 21) (oi := { dst := some 29, op := Op.fieldAddr 109 (Operand.tmp 28) 0, type := 0, pos := "view.go:71", after := #[{ on := 20, ground := Ground.data }, { on := 17, ground := Ground.guard }], guard := some (17, false) }) (v := undef) rfl (by kernel_rfl) (by kernel_rfl) (by kernel_rfl) (fun _ _ _ h => h) (Or.inr ⟨by rfl, rfl⟩) (by assumption) ?_
        try simp only [Act.put, List.setIfInBounds_toArray, List.set_cons_zero, List.set_cons_succ]
        refine wpAnyH_take (i := 22) (oi := { dst := some 30, op := Op.load 3 (Operand.tmp 29), type := 3, pos := "view.go:71", after := #[{ on := 21, ground := Ground.data }, { on := 17, ground := Ground.guard }], guard := some (17, false) }) (v := undef) rfl (by kernel_rfl) (by kernel_rfl) (by kernel_rfl) (fun _ _ _ h => h) (Or.inr ⟨by rfl, rfl⟩) (by assumption) ?_
        try simp only [Act.put, List.setIfInBounds_toArray, List.set_cons_zero, List.set_cons_succ]
        refine wpAnyH_take (i := 23) (oi := { dst := some 31, op := Op.binOp BinOp.eql 3 (Operand.tmp 26) (Operand.tmp 30) 3, type := 4, pos := "view.go:71", after := #[{ on := 18, ground := Ground.data }, { on := 22, ground := Ground.data }, { on := 17, ground := Ground.guard }], guard := some (17, false) }) (v := undef) rfl (by kernel_rfl) (by kernel_rfl) (by kernel_rfl) (fun _ _ _ h => h) (Or.inr ⟨by rfl, rfl⟩) (by assumption) ?_
        try simp only [Act.put, List.setIfInBounds_toArray, List.set_cons_zero, List.set_cons_succ]
        refine wpAnyH_take (i := 24) (oi := { dst := some 32, op := Op.pick (Operand.tmp 25) (Operand.const (Value.bool true)) (Operand.tmp 31), type := 4, pos := "view.go:71", after := #[{ on := 17, ground := Ground.data }, { on := 23, ground := Ground.data }], guard := none }) (v := .bool true) rfl (by kernel_rfl) (by kernel_rfl) (by kernel_rfl) (fun _ _ _ h => h) (Or.inl ⟨by rfl, fun wS hSw => ?_⟩) (by assumption) ?_
        · clear hHeld
          clear hSw
          go_simp
        try simp only [Act.put, List.setIfInBounds_toArray, List.set_cons_zero, List.set_cons_succ]
        refine wpAnyH_done (by kernel_rfl) ?_ _
        clear hHeld
        go_wp2_with fail
        go_meet
        exact ⟨by rw [HB.out], HT3.out⟩

      · have hC : ¬ (4611686018427387904 : Int) < (C : Int) := by omega
        by_cases hf : F = (me : Int)
        · have hF : (F == (me : Int)) = true := beq_iff_eq.2 hf
          have HB : Hid (B = true) := by show _ = _; rw [HB0.out, hF]; simp

          refine wpAnyH_take (i := 0) (oi := { dst := some 8, op := Op.load 53 (Operand.tmp 3), type := 53, pos := "view.go:71", after := #[], guard := none }) (v := .agg PC) rfl (by kernel_rfl) (by kernel_rfl) (by kernel_rfl) (fun _ _ _ h => h) (yieldsIf_load_arr Array.toArray_toList (by rfl) _ _ rfl _ _ rfl (fun _ h => h.1) u44 rfl iP) (by assumption) ?_
          try simp only [Act.put, List.setIfInBounds_toArray, List.set_cons_zero, List.set_cons_succ]
          refine wpAnyH_ready (rs := [1]) (by kernel_rfl) (by simp) ?_
          refine AllReadyH.cons (o := { dst := some 9, op := Op.call { callee := Callee.value (Operand.func 70), args := #[Operand.tmp 8], argTypes := #[53] }, type := 4, pos := "view.go:71", after := #[{ on := 0, ground := Ground.data }], guard := none }) rfl (fun K hK => ?_) AllReadyH.nil
          clear hHeld
          go_simp
          refine (HRt.out _).mono ?_; rintro e w3 ⟨rfl, hb3⟩
          have HT3 := hid (HT2.out.drew.call hb3)
          clear hb3
          go_wp2_with fail
          refine hK.out _ _ (HSq.out _ HT3.out) (fun hHeld => ?_)
          clear hK K
          try simp only [Act.put, List.setIfInBounds_toArray, List.set_cons_zero, List.set_cons_succ]
          refine wpAnyH_take (i := 2) (oi := { dst := some 10, op := Op.unOp UnOp.not 4 (Operand.tmp 9), type := 4, pos := "view.go:71", after := #[{ on := 1, ground := Ground.data }], guard := none }) (v := .bool false) rfl (by kernel_rfl) (by kernel_rfl) (by kernel_rfl) (fun _ _ _ h => h) (Or.inl ⟨by rfl, fun wS hSw => ?_⟩) (by assumption) ?_
          · clear hHeld
            clear hSw
            go_simp
          try simp only [Act.put, List.setIfInBounds_toArray, List.set_cons_zero, List.set_cons_succ]
          refine wpAnyH_take (i := 3) (oi := { dst := some 11, op := Op.move (Operand.tmp 10), type := 4, pos := "view.go:71", after := #[{ on := 2, ground := Ground.data }, { on := 1, ground := Ground.chain }], guard := none }) (v := .bool false) rfl (by kernel_rfl) (by kernel_rfl) (by kernel_rfl) (fun _ _ _ h => h) (Or.inl ⟨by rfl, fun wS hSw => ?_⟩) (by assumption) ?_
          · clear hHeld
            clear hSw
            go_simp
          try simp only [Act.put, List.setIfInBounds_toArray, List.set_cons_zero, List.set_cons_succ]
          refine wpAnyH_take (i := 4) (oi := { dst := some 12, op := Op.fieldAddr 53 (Operand.tmp 3) 4, type := 0, pos := "view.go:71", after := #[{ on := 3, ground := Ground.guard }], guard := some (3, false) }) (v := .pointer (some ⟨w.heap.size, 4, none⟩)) rfl (by kernel_rfl) (by kernel_rfl) (by kernel_rfl) (fun _ _ _ h => h) (Or.inl ⟨by rfl, fun wS hSw => ?_⟩) (by assumption) ?_
          · clear hHeld
            clear hSw
            go_simp
          try simp only [Act.put, List.setIfInBounds_toArray, List.set_cons_zero, List.set_cons_succ]
          refine wpAnyH_take (i := 5) (oi := { dst := some 13, op := Op.load 22 (Operand.tmp 12), type := 22, pos := "view.go:71", after := #[{ on := 4, ground := Ground.data }, { on := 3, ground := Ground.guard }], guard := some (3, false) }) (v := .int .u64 (C : Int)) rfl (by kernel_rfl) (by kernel_rfl) (by kernel_rfl) (fun _ _ _ h => h) (Or.inl ⟨by rfl, fun wS hSw => ?_⟩) (by assumption) ?_
          · clear hHeld
            obtain ⟨s0, s1, s4, s5⟩ := hSw
            go_simp
          try simp only [Act.put, List.setIfInBounds_toArray, List.set_cons_zero, List.set_cons_succ]
          refine wpAnyH_take (i := 6) (oi := { dst := some 14, op := Op.binOp BinOp.gtr 22 (Operand.tmp 13) (Operand.const (Value.int IntKind.u64 4611686018427387904)) 22, type := 4, pos := "view.go:71", after := #[{ on := 5, ground := Ground.data }, { on := 3, ground := Ground.guard }], guard := some (3, false) }) (v := .bool false) rfl (by kernel_rfl) (by kernel_rfl) (by kernel_rfl) (fun _ _ _ h => h) (Or.inl ⟨by rfl, fun wS hSw => ?_⟩) (by assumption) ?_
          · clear hHeld
            have hCC := hC
            clear hSw
            go_simp
          try simp only [Act.put, List.setIfInBounds_toArray, List.set_cons_zero, List.set_cons_succ]
          refine wpAnyH_take (i := 7) (oi := { dst := some 15, op := Op.pick (Operand.tmp 11) (Operand.const (Value.bool true)) (Operand.tmp 14), type := 4, pos := "view.go:71", after := #[{ on := 3, ground := Ground.data }, { on := 6, ground := Ground.data }], guard := none }) (v := .bool false) rfl (by kernel_rfl) (by kernel_rfl) (by kernel_rfl) (fun _ _ _ h => h) (Or.inl ⟨by rfl, fun wS hSw => ?_⟩) (by assumption) ?_
          · clear hHeld
            clear hSw
            go_simp
          try simp only [Act.put, List.setIfInBounds_toArray, List.set_cons_zero, List.set_cons_succ]
          refine wpAnyH_take (i := 8) (oi := { dst := some 16, op := Op.move (Operand.tmp 15), type := 4, pos := "view.go:71", after := #[{ on := 7, ground := Ground.data }, { on := 3, ground := Ground.chain }], guard := none }) (v := .bool false) rfl (by kernel_rfl) (by kernel_rfl) (by kernel_rfl) (fun _ _ _ h => h) (Or.inl ⟨by rfl, fun wS hSw => ?_⟩) (by assumption) ?_
          · clear hHeld
            clear hSw
            go_simp
          try simp only [Act.put, List.setIfInBounds_toArray, List.set_cons_zero, List.set_cons_succ]
          refine wpAnyH_take (i := 9) (oi := { dst := some 17, op := Op.fieldAddr 53 (Operand.tmp 3) 1, type := 0, pos := "view.go:71", after := #[{ on := 8, ground := Ground.guard }], guard := some (8, false) }) (v := .pointer (some ⟨w.heap.size, 1, none⟩)) rfl (by kernel_rfl) (by kernel_rfl) (by kernel_rfl) (fun _ _ _ h => h) (Or.inl ⟨by rfl, fun wS hSw => ?_⟩) (by assumption) ?_
          · clear hHeld
            clear hSw
            go_simp
          try simp only [Act.put, List.setIfInBounds_toArray, List.set_cons_zero, List.set_cons_succ]
          refine wpAnyH_take (i := 10) (oi := { dst := some 18, op := Op.load 3 (Operand.tmp 17), type := 3, pos := "view.go:71", after := #[{ on := 9, ground := Ground.data }, { on := 8, ground := Ground.guard }], guard := some (8, false) }) (v := .int .i64 F) rfl (by kernel_rfl) (by kernel_rfl) (by kernel_rfl) (fun _ _ _ h => h) (Or.inl ⟨by rfl, fun wS hSw => ?_⟩) (by assumption) ?_
          · clear hHeld
            obtain ⟨s0, s1, s4, s5⟩ := hSw
            go_simp
          try simp only [Act.put, List.setIfInBounds_toArray, List.set_cons_zero, List.set_cons_succ]
          refine wpAnyH_take (i := 11) (oi := { dst := some 19, op := Op.move (Operand.tmp 0), type := 50, pos := "view.go:71", after := #[{ on := 8, ground := Ground.guard }], guard := some (8, false) }) (v := .pointer (some ⟨b, 0, none⟩)) rfl (by kernel_rfl) (by kernel_rfl) (by kernel_rfl) (fun _ _ _ h => h) (Or.inl ⟨by rfl, fun wS hSw => ?_⟩) (by assumption) ?_
          · clear hHeld
            clear hSw
            go_simp
          try simp only [Act.put, List.setIfInBounds_toArray, List.set_cons_zero, List.set_cons_succ]
          refine wpAnyH_take (i := 12) (oi := { dst := some 20, op := Op.nilCheck (Operand.tmp 19), type := 0, pos := "view.go:71", after := #[{ on := 11, ground := Ground.data }, { on := 8, ground := Ground.guard }], guard := some (8, false) }) (v := .pointer (some ⟨b, 0, none⟩)) rfl (by kernel_rfl) (by kernel_rfl) (by kernel_rfl) (fun _ _ _ h => h) (Or.inl ⟨by rfl, fun wS hSw => ?_⟩) (by assumption) ?_
          · clear hHeld
            clear hSw
            go_simp
          try simp only [Act.put, List.setIfInBounds_toArray, List.set_cons_zero, List.set_cons_succ]
          refine wpAnyH_take (i := 13) (oi := { dst := some 21, op := Op.fieldAddr 109 (Operand.tmp 20) 0, type := 0, pos := "view.go:71", after := #[{ on := 12, ground := Ground.data }, { on := 8, ground := Ground.guard }], guard := some (8, false) }) (v := .pointer (some ⟨b, 0, none⟩)) rfl (by kernel_rfl) (by kernel_rfl) (by kernel_rfl) (fun _ _ _ h => h) (Or.inl ⟨by rfl, fun wS hSw => ?_⟩) (by assumption) ?_
          · clear hHeld
            clear hSw
            go_simp
          try simp only [Act.put, List.setIfInBounds_toArray, List.set_cons_zero, List.set_cons_succ]
          refine wpAnyH_take (i := 14) (oi := { dst := some 22, op := Op.load 3 (Operand.tmp 21), type := 3, pos := "view.go:71", after := #[{ on := 13, ground := Ground.data }, { on := 8, ground := Ground.guard }], guard := some (8, false) }) (v := .int .i64 (me : Int)) rfl (by kernel_rfl) (by kernel_rfl) (by kernel_rfl) (fun _ _ _ h => h) (Or.inl ⟨by rfl, fun wS hSw => ?_⟩) (by assumption) ?_
          · clear hHeld
            obtain ⟨s0, s1, s4, s5⟩ := hSw
            go_simp
          try simp only [Act.put, List.setIfInBounds_toArray, List.set_cons_zero, List.set_cons_succ]
          refine wpAnyH_take (i := 15) (oi := { dst := some 23, op := Op.binOp BinOp.eql 3 (Operand.tmp 18) (Operand.tmp 22) 3, type := 4, pos := "view.go:71", after := #[{ on := 10, ground := Ground.data }, { on := 14, ground := Ground.data }, { on := 8, ground := Ground.guard }], guard := some (8, false) }) (v := .bool true) rfl (by kernel_rfl) (by kernel_rfl) (by kernel_rfl) (fun _ _ _ h => h) (Or.inl ⟨by rfl, fun wS hSw => ?_⟩) (by assumption) ?_
          · clear hHeld
            have hFF := hF
            clear hSw
            go_simp
          try simp only [Act.put, List.setIfInBounds_toArray, List.set_cons_zero, List.set_cons_succ]
          refine wpAnyH_take (i := 16) (oi := { dst := some 24, op := Op.pick (Operand.tmp 16) (Operand.const (Value.bool true)) (Operand.tmp 23), type := 4, pos := "view.go:71", after := #[{ on := 8, ground := Ground.data }, { on := 15, ground := Ground.data }], guard := none }) (v := .bool true) rfl (by kernel_rfl) (by kernel_rfl) (by kernel_rfl) (fun _ _ _ h => h) (Or.inl ⟨by rfl, fun wS hSw => ?_⟩) (by assumption) ?_
          · clear hHeld
            clear hSw
            go_simp
          try simp only [Act.put, List.setIfInBounds_toArray, List.set_cons_zero, List.set_cons_succ]
          refine wpAnyH_take (i := 17) (oi := { dst := some 25, op := Op.move (Operand.tmp 24), type := 4, pos := "view.go:71", after := #[{ on := 16, ground := Ground.data }, { on := 8, ground := Ground.chain }], guard := none }) (v := .bool true) rfl (by kernel_rfl) (by kernel_rfl) (by kernel_rfl) (fun _ _ _ h => h) (Or.inl ⟨by rfl, fun wS hSw => ?_⟩) (by assumption) ?_
          · clear hHeld
            clear hSw
            go_simp
          try simp only [Act.put, List.setIfInBounds_toArray, List.set_cons_zero, List.set_cons_succ]
          refine wpAnyH_take (i := 18) (oi := { dst := some 26, op := Op.move (Operand.tmp 5), type := 3, pos := "view.go:71", after := #[{ on := 17, ground := Ground.guard }], guard := some (17, false) }) (v := undef) rfl (by kernel_rfl) (by kernel_rfl) (by kernel_rfl) (fun _ _ _ h => h) (Or.inr ⟨by rfl, rfl⟩) (by assumption) ?_
          try simp only [Act.put, List.setIfInBounds_toArray, List.set_cons_zero, List.set_cons_succ]
          refine wpAnyH_take (i := 19) (oi := { dst := some 27, op := Op.move (Operand.tmp 0), type := 50, pos := "view.go:71", after := #[{ on := 17, ground := Ground.guard }], guard := some (17, false) }) (v := undef) rfl (by kernel_rfl) (by kernel_rfl) (by kernel_rfl) (fun _ _ _ h => h) (Or.inr ⟨by rfl, rfl⟩) (by assumption) ?_
          try simp only [Act.put, List.setIfInBounds_toArray, List.set_cons_zero, List.set_cons_succ]
          refine wpAnyH_take (i := 20) (oi := { dst := some 28, op := Op.nilCheck (Operand.tmp 27), type := 0, pos := "view.go:71", after := #[{ on := 19, ground := Ground.data }, { on := 17, ground := Ground.guard }], guard := some (17, false) }) (v := undef) rfl (by kernel_rfl) (by kernel_rfl) (by kernel_rfl) (fun _ _ _ h => h) (Or.inr ⟨by rfl, rfl⟩) (by assumption) ?_
          try simp only [Act.put, List.setIfInBounds_toArray, List.set_cons_zero, List.set_cons_succ]
          refine wpAnyH_take (i := 21) (oi := { dst := some 29, op := Op.fieldAddr 109 (Operand.tmp 28) 0, type := 0, pos := "view.go:71", after := #[{ on := 20, ground := Ground.data }, { on := 17, ground := Ground.guard }], guard := some (17, false) }) (v := undef) rfl (by kernel_rfl) (by kernel_rfl) (by kernel_rfl) (fun _ _ _ h => h) (Or.inr ⟨by rfl, rfl⟩) (by assumption) ?_
          try simp only [Act.put, List.setIfInBounds_toArray, List.set_cons_zero, List.set_cons_succ]
          refine wpAnyH_take (i := 22) (oi := { dst := some 30, op := Op.load 3 (Operand.tmp 29), type := 3, pos := "view.go:71", after := #[{ on := 21, ground := Ground.data }, { on := 17, ground := Ground.guard }], guard := some (17, false) }) (v := undef) rfl (by kernel_rfl) (by kernel_rfl) (by kernel_rfl) (fun _ _ _ h => h) (Or.inr ⟨by rfl, rfl⟩) (by assumption) ?_
          try simp only [Act.put, List.setIfInBounds_toArray, List.set_cons_zero, List.set_cons_succ]
          refine wpAnyH_take (i := 23) (oi := { dst := some 31, op := Op.binOp BinOp.eql 3 (Operand.tmp 26) (Operand.tmp 30) 3, type := 4, pos := "view.go:71", after := #[{ on := 18, ground := Ground.data }, { on := 22, ground := Ground.data }, { on := 17, ground := Ground.guard }], guard := some (17, false) }) (v := undef) rfl (by kernel_rfl) (by kernel_rfl) (by kernel_rfl) (fun _ _ _ h => h) (Or.inr ⟨by rfl, rfl⟩) (by assumption) ?_
          try simp only [Act.put, List.setIfInBounds_toArray, List.set_cons_zero, List.set_cons_succ]
          refine wpAnyH_take (i := 24) (oi := { dst := some 32, op := Op.pick (Operand.tmp 25) (Operand.const (Value.bool true)) (Operand.tmp 31), type := 4, pos := "view.go:71", after := #[{ on := 17, ground := Ground.data }, { on := 23, ground := Ground.data }], guard := none }) (v := .bool true) rfl (by kernel_rfl) (by kernel_rfl) (by kernel_rfl) (fun _ _ _ h => h) (Or.inl ⟨by rfl, fun wS hSw => ?_⟩) (by assumption) ?_
          · clear hHeld
            clear hSw
            go_simp
          try simp only [Act.put, List.setIfInBounds_toArray, List.set_cons_zero, List.set_cons_succ]
          refine wpAnyH_done (by kernel_rfl) ?_ _
          clear hHeld
          go_wp2_with fail
          go_meet
          exact ⟨by rw [HB.out], HT3.out⟩

        · have hF : (F == (me : Int)) = false := beq_eq_false_iff_ne.2 hf
          by_cases hn : N = (me : Int)
          · subst hn
            have hN : ((me : Int) == (me : Int)) = true := by simp
            have HB : Hid (B = true) := by show _ = _; rw [HB0.out]; simp

            refine wpAnyH_take (i := 0) (oi := { dst := some 8, op := Op.load 53 (Operand.tmp 3), type := 53, pos := "view.go:71", after := #[], guard := none }) (v := .agg PC) rfl (by kernel_rfl) (by kernel_rfl) (by kernel_rfl) (fun _ _ _ h => h) (yieldsIf_load_arr Array.toArray_toList (by rfl) _ _ rfl _ _ rfl (fun _ h => h.1) u44 rfl iP) (by assumption) ?_
            try simp only [Act.put, List.setIfInBounds_toArray, List.set_cons_zero, List.set_cons_succ]
            refine wpAnyH_ready (rs := [1]) (by kernel_rfl) (by simp) ?_
            refine AllReadyH.cons (o := { dst := some 9, op := Op.call { callee := Callee.value (Operand.func 70), args := #[Operand.tmp 8], argTypes := #[53] }, type := 4, pos := "view.go:71", after := #[{ on := 0, ground := Ground.data }], guard := none }) rfl (fun K hK => ?_) AllReadyH.nil
            clear hHeld
            go_simp
            refine (HRt.out _).mono ?_; rintro e w3 ⟨rfl, hb3⟩
            have HT3 := hid (HT2.out.drew.call hb3)
            clear hb3
            go_wp2_with fail
            refine hK.out _ _ (HSq.out _ HT3.out) (fun hHeld => ?_)
            clear hK K
            try simp only [Act.put, List.setIfInBounds_toArray, List.set_cons_zero, List.set_cons_succ]
            refine wpAnyH_take (i := 2) (oi := { dst := some 10, op := Op.unOp UnOp.not 4 (Operand.tmp 9), type := 4, pos := "view.go:71", after := #[{ on := 1, ground := Ground.data }], guard := none }) (v := .bool false) rfl (by kernel_rfl) (by kernel_rfl) (by kernel_rfl) (fun _ _ _ h => h) (Or.inl ⟨by rfl, fun wS hSw => ?_⟩) (by assumption) ?_
            · clear hHeld
              clear hSw
              go_simp
            try simp only [Act.put, List.setIfInBounds_toArray, List.set_cons_zero, List.set_cons_succ]
            refine wpAnyH_take (i := 3) (oi := { dst := some 11, op := Op.move (Operand.tmp 10), type := 4, pos := "view.go:71", after := #[{ on := 2, ground := Ground.data }, { on := 1, ground := Ground.chain }], guard := none }) (v := .bool false) rfl (by kernel_rfl) (by kernel_rfl) (by kernel_rfl) (fun _ _ _ h => h) (Or.inl ⟨by rfl, fun wS hSw => ?_⟩) (by assumption) ?_
            · clear hHeld
              clear hSw
              go_simp
            try simp only [Act.put, List.setIfInBounds_toArray, List.set_cons_zero, List.set_cons_succ]
            refine wpAnyH_take (i := 4) (oi := { dst := some 12, op := Op.fieldAddr 53 (Operand.tmp 3) 4, type := 0, pos := "view.go:71", after := #[{ on := 3, ground := Ground.guard }], guard := some (3, false) }) (v := .pointer (some ⟨w.heap.size, 4, none⟩)) rfl (by kernel_rfl) (by kernel_rfl) (by kernel_rfl) (fun _ _ _ h => h) (Or.inl ⟨by rfl, fun wS hSw => ?_⟩) (by assumption) ?_
            · clear hHeld
              clear hSw
              go_simp
            try simp only [Act.put, List.setIfInBounds_toArray, List.set_cons_zero, List.set_cons_succ]
            refine wpAnyH_take (i := 5) (oi := { dst := some 13, op := Op.load 22 (Operand.tmp 12), type := 22, pos := "view.go:71", after := #[{ on := 4, ground := Ground.data }, { on := 3, ground := Ground.guard }], guard := some (3, false) }) (v := .int .u64 (C : Int)) rfl (by kernel_rfl) (by kernel_rfl) (by kernel_rfl) (fun _ _ _ h => h) (Or.inl ⟨by rfl, fun wS hSw => ?_⟩) (by assumption) ?_
            · clear hHeld
              obtain ⟨s0, s1, s4, s5⟩ := hSw
              go_simp
            try simp only [Act.put, List.setIfInBounds_toArray, List.set_cons_zero, List.set_cons_succ]
            refine wpAnyH_take (i := 6) (oi := { dst := some 14, op := Op.binOp BinOp.gtr 22 (Operand.tmp 13) (Operand.const (Value.int IntKind.u64 4611686018427387904)) 22, type := 4, pos := "view.go:71", after := #[{ on := 5, ground := Ground.data }, { on := 3, ground := Ground.guard }], guard := some (3, false) }) (v := .bool false) rfl (by kernel_rfl) (by kernel_rfl) (by kernel_rfl) (fun _ _ _ h => h) (Or.inl ⟨by rfl, fun wS hSw => ?_⟩) (by assumption) ?_
            · clear hHeld
              have hCC := hC
              clear hSw
              go_simp
            try simp only [Act.put, List.setIfInBounds_toArray, List.set_cons_zero, List.set_cons_succ]
            refine wpAnyH_take (i := 7) (oi := { dst := some 15, op := Op.pick (Operand.tmp 11) (Operand.const (Value.bool true)) (Operand.tmp 14), type := 4, pos := "view.go:71", after := #[{ on := 3, ground := Ground.data }, { on := 6, ground := Ground.data }], guard := none }) (v := .bool false) rfl (by kernel_rfl) (by kernel_rfl) (by kernel_rfl) (fun _ _ _ h => h) (Or.inl ⟨by rfl, fun wS hSw => ?_⟩) (by assumption) ?_
            · clear hHeld
              clear hSw
              go_simp
            try simp only [Act.put, List.setIfInBounds_toArray, List.set_cons_zero, List.set_cons_succ]
            refine wpAnyH_take (i := 8) (oi := { dst := some 16, op := Op.move (Operand.tmp 15), type := 4, pos := "view.go:71", after := #[{ on := 7, ground := Ground.data }, { on := 3, ground := Ground.chain }], guard := none }) (v := .bool false) rfl (by kernel_rfl) (by kernel_rfl) (by kernel_rfl) (fun _ _ _ h => h) (Or.inl ⟨by rfl, fun wS hSw => ?_⟩) (by assumption) ?_
            · clear hHeld
              clear hSw
              go_simp
            try simp only [Act.put, List.setIfInBounds_toArray, List.set_cons_zero, List.set_cons_succ]
            refine wpAnyH_take (i := 9) (oi := { dst := some 17, op := Op.fieldAddr 53 (Operand.tmp 3) 1, type := 0, pos := "view.go:71", after := #[{ on := 8, ground := Ground.guard }], guard := some (8, false) }) (v := .pointer (some ⟨w.heap.size, 1, none⟩)) rfl (by kernel_rfl) (by kernel_rfl) (by kernel_rfl) (fun _ _ _ h => h) (Or.inl ⟨by rfl, fun wS hSw => ?_⟩) (by assumption) ?_
            · clear hHeld
              clear hSw
              go_simp
            try simp only [Act.put, List.setIfInBounds_toArray, List.set_cons_zero, List.set_cons_succ]
            refine wpAnyH_take (i := 10) (oi := { dst := some 18, op := Op.load 3 (Operand.tmp 17), type := 3, pos := "view.go:71", after := #[{ on := 9, ground := Ground.data }, { on := 8, ground := Ground.guard }], guard := some (8, false) }) (v := .int .i64 F) rfl (by kernel_rfl) (by kernel_rfl) (by kernel_rfl) (fun _ _ _ h => h) (Or.inl ⟨by rfl, fun wS hSw => ?_⟩) (by assumption) ?_
            · clear hHeld
              obtain ⟨s0, s1, s4, s5⟩ := hSw
              go_simp
            try simp only [Act.put, List.setIfInBounds_toArray, List.set_cons_zero, List.set_cons_succ]
            refine wpAnyH_take (i := 11) (oi := { dst := some 19, op := Op.move (Operand.tmp 0), type := 50, pos := "view.go:71", after := #[{ on := 8, ground := Ground.guard }], guard := some (8, false) }) (v := .pointer (some ⟨b, 0, none⟩)) rfl (by kernel_rfl) (by kernel_rfl) (by kernel_rfl) (fun _ _ _ h => h) (Or.inl ⟨by rfl, fun wS hSw => ?_⟩) (by assumption) ?_
            · clear hHeld
              clear hSw
              go_simp
            try simp only [Act.put, List.setIfInBounds_toArray, List.set_cons_zero, List.set_cons_succ]
            refine wpAnyH_take (i := 12) (oi := { dst := some 20, op := Op.nilCheck (Operand.tmp 19), type := 0, pos := "view.go:71", after := #[{ on := 11, ground := Ground.data }, { on := 8, ground := Ground.guard }], guard := some (8, false) }) (v := .pointer (some ⟨b, 0, none⟩)) rfl (by kernel_rfl) (by kernel_rfl) (by kernel_rfl) (fun _ _ _ h => h) (Or.inl ⟨by rfl, fun wS hSw => ?_⟩) (by assumption) ?_
            · clear hHeld
              clear hSw
              go_simp
            try simp only [Act.put, List.setIfInBounds_toArray, List.set_cons_zero, List.set_cons_succ]
            refine wpAnyH_take (i := 13) (oi := { dst := some 21, op := Op.fieldAddr 109 (Operand.tmp 20) 0, type := 0, pos := "view.go:71", after := #[{ on := 12, ground := Ground.data }, { on := 8, ground := Ground.guard }], guard := some (8, false) }) (v := .pointer (some ⟨b, 0, none⟩)) rfl (by kernel_rfl) (by kernel_rfl) (by kernel_rfl) (fun _ _ _ h => h) (Or.inl ⟨by rfl, fun wS hSw => ?_⟩) (by assumption) ?_
            · clear hHeld
              clear hSw
              go_simp
            try simp only [Act.put, List.setIfInBounds_toArray, List.set_cons_zero, List.set_cons_succ]
            refine wpAnyH_take (i := 14) (oi := { dst := some 22, op := Op.load 3 (Operand.tmp 21), type := 3, pos := "view.go:71", after := #[{ on := 13, ground := Ground.data }, { on := 8, ground := Ground.guard }], guard := some (8, false) }) (v := .int .i64 (me : Int)) rfl (by kernel_rfl) (by kernel_rfl) (by kernel_rfl) (fun _ _ _ h => h) (Or.inl ⟨by rfl, fun wS hSw => ?_⟩) (by assumption) ?_
            · clear hHeld
              obtain ⟨s0, s1, s4, s5⟩ := hSw
              go_simp
            try simp only [Act.put, List.setIfInBounds_toArray, List.set_cons_zero, List.set_cons_succ]
            refine wpAnyH_take (i := 15) (oi := { dst := some 23, op := Op.binOp BinOp.eql 3 (Operand.tmp 18) (Operand.tmp 22) 3, type := 4, pos := "view.go:71", after := #[{ on := 10, ground := Ground.data }, { on := 14, ground := Ground.data }, { on := 8, ground := Ground.guard }], guard := some (8, false) }) (v := .bool false) rfl (by kernel_rfl) (by kernel_rfl) (by kernel_rfl) (fun _ _ _ h => h) (Or.inl ⟨by rfl, fun wS hSw => ?_⟩) (by assumption) ?_
            · clear hHeld
              have hFF := hF
              clear hSw
              go_simp
            try simp only [Act.put, List.setIfInBounds_toArray, List.set_cons_zero, List.set_cons_succ]
            refine wpAnyH_take (i := 16) (oi := { dst := some 24, op := Op.pick (Operand.tmp 16) (Operand.const (Value.bool true)) (Operand.tmp 23), type := 4, pos := "view.go:71", after := #[{ on := 8, ground := Ground.data }, { on := 15, ground := Ground.data }], guard := none }) (v := .bool false) rfl (by kernel_rfl) (by kernel_rfl) (by kernel_rfl) (fun _ _ _ h => h) (Or.inl ⟨by rfl, fun wS hSw => ?_⟩) (by assumption) ?_
            · clear hHeld
              clear hSw
              go_simp
            try simp only [Act.put, List.setIfInBounds_toArray, List.set_cons_zero, List.set_cons_succ]
            refine wpAnyH_take (i := 17) (oi := { dst := some 25, op := Op.move (Operand.tmp 24), type := 4, pos := "view.go:71", after := #[{ on := 16, ground := Ground.data }, { on := 8, ground := Ground.chain }], guard := none }) (v := .bool false) rfl (by kernel_rfl) (by kernel_rfl) (by kernel_rfl) (fun _ _ _ h => h) (Or.inl ⟨by rfl, fun wS hSw => ?_⟩) (by assumption) ?_
            · clear hHeld
              clear hSw
              go_simp
            try simp only [Act.put, List.setIfInBounds_toArray, List.set_cons_zero, List.set_cons_succ]
            refine wpAnyH_take (i := 18) (oi := { dst := some 26, op := Op.move (Operand.tmp 5), type := 3, pos := "view.go:71", after := #[{ on := 17, ground := Ground.guard }], guard := some (17, false) }) (v := .int .i64 (me : Int)) rfl (by kernel_rfl) (by kernel_rfl) (by kernel_rfl) (fun _ _ _ h => h) (Or.inl ⟨by rfl, fun wS hSw => ?_⟩) (by assumption) ?_
            · clear hHeld
              clear hSw
              go_simp
            try simp only [Act.put, List.setIfInBounds_toArray, List.set_cons_zero, List.set_cons_succ]
            refine wpAnyH_take (i := 19) (oi := { dst := some 27, op := Op.move (Operand.tmp 0), type := 50, pos := "view.go:71", after := #[{ on := 17, ground := Ground.guard }], guard := some (17, false) }) (v := .pointer (some ⟨b, 0, none⟩)) rfl (by kernel_rfl) (by kernel_rfl) (by kernel_rfl) (fun _ _ _ h => h) (Or.inl ⟨by rfl, fun wS hSw => ?_⟩) (by assumption) ?_
            · clear hHeld
              clear hSw
              go_simp
            try simp only [Act.put, List.setIfInBounds_toArray, List.set_cons_zero, List.set_cons_succ]
            refine wpAnyH_take (i := 20) (oi := { dst := some 28, op := Op.nilCheck (Operand.tmp 27), type := 0, pos := "view.go:71", after := #[{ on := 19, ground := Ground.data }, { on := 17, ground := Ground.guard }], guard := some (17, false) }) (v := .pointer (some ⟨b, 0, none⟩)) rfl (by kernel_rfl) (by kernel_rfl) (by kernel_rfl) (fun _ _ _ h => h) (Or.inl ⟨by rfl, fun wS hSw => ?_⟩) (by assumption) ?_
            · clear hHeld
              clear hSw
              go_simp
            try simp only [Act.put, List.setIfInBounds_toArray, List.set_cons_zero, List.set_cons_succ]
            refine wpAnyH_take (i := 21) (oi := { dst := some 29, op := Op.fieldAddr 109 (Operand.tmp 28) 0, type := 0, pos := "view.go:71", after := #[{ on := 20, ground := Ground.data }, { on := 17, ground := Ground.guard }], guard := some (17, false) }) (v := .pointer (some ⟨b, 0, none⟩)) rfl (by kernel_rfl) (by kernel_rfl) (by kernel_rfl) (fun _ _ _ h => h) (Or.inl ⟨by rfl, fun wS hSw => ?_⟩) (by assumption) ?_
            · clear hHeld
              clear hSw
              go_simp
            try simp only [Act.put, List.setIfInBounds_toArray, List.set_cons_zero, List.set_cons_succ]
            refine wpAnyH_take (i := 22) (oi := { dst := some 30, op := Op.load 3 (Operand.tmp 29), type := 3, pos := "view.go:71", after := #[{ on := 21, ground := Ground.data }, { on := 17, ground := Ground.guard }], guard := some (17, false) }) (v := .int .i64 (me : Int)) rfl (by kernel_rfl) (by kernel_rfl) (by kernel_rfl) (fun _ _ _ h => h) (Or.inl ⟨by rfl, fun wS hSw => ?_⟩) (by assumption) ?_
            · clear hHeld
              obtain ⟨s0, s1, s4, s5⟩ := hSw
              go_simp
            try simp only [Act.put, List.setIfInBounds_toArray, List.set_cons_zero, List.set_cons_succ]
            refine wpAnyH_take (i := 23) (oi := { dst := some 31, op := Op.binOp BinOp.eql 3 (Operand.tmp 26) (Operand.tmp 30) 3, type := 4, pos := "view.go:71", after := #[{ on := 18, ground := Ground.data }, { on := 22, ground := Ground.data }, { on := 17, ground := Ground.guard }], guard := some (17, false) }) (v := .bool true) rfl (by kernel_rfl) (by kernel_rfl) (by kernel_rfl) (fun _ _ _ h => h) (Or.inl ⟨by rfl, fun wS hSw => ?_⟩) (by assumption) ?_
            · clear hHeld
              have hNN := hN
              clear hSw
              go_simp
            try simp only [Act.put, List.setIfInBounds_toArray, List.set_cons_zero, List.set_cons_succ]
            refine wpAnyH_take (i := 24) (oi := { dst := some 32, op := Op.pick (Operand.tmp 25) (Operand.const (Value.bool true)) (Operand.tmp 31), type := 4, pos := "view.go:71", after := #[{ on := 17, ground := Ground.data }, { on := 23, ground := Ground.data }], guard := none }) (v := .bool true) rfl (by kernel_rfl) (by kernel_rfl) (by kernel_rfl) (fun _ _ _ h => h) (Or.inl ⟨by rfl, fun wS hSw => ?_⟩) (by assumption) ?_
            · clear hHeld
              clear hSw
              go_simp
            try simp only [Act.put, List.setIfInBounds_toArray, List.set_cons_zero, List.set_cons_succ]
            refine wpAnyH_done (by kernel_rfl) ?_ _
            clear hHeld
            go_wp2_with fail
            go_meet
            exact ⟨by rw [HB.out], HT3.out⟩

          · have hN : (N == (me : Int)) = false := beq_eq_false_iff_ne.2 hn
            have HB : Hid (B = false) := by show _ = _; rw [HB0.out, hN, hF, decide_eq_false hc]; rfl

            refine wpAnyH_take (i := 0) (oi := { dst := some 8, op := Op.load 53 (Operand.tmp 3), type := 53, pos := "view.go:71", after := #[], guard := none }) (v := .agg PC) rfl (by kernel_rfl) (by kernel_rfl) (by kernel_rfl) (fun _ _ _ h => h) (yieldsIf_load_arr Array.toArray_toList (by rfl) _ _ rfl _ _ rfl (fun _ h => h.1) u44 rfl iP) (by assumption) ?_
            try simp only [Act.put, List.setIfInBounds_toArray, List.set_cons_zero, List.set_cons_succ]
            refine wpAnyH_ready (rs := [1]) (by kernel_rfl) (by simp) ?_
            refine AllReadyH.cons (o := { dst := some 9, op := Op.call { callee := Callee.value (Operand.func 70), args := #[Operand.tmp 8], argTypes := #[53] }, type := 4, pos := "view.go:71", after := #[{ on := 0, ground := Ground.data }], guard := none }) rfl (fun K hK => ?_) AllReadyH.nil
            clear hHeld
            go_simp
            refine (HRt.out _).mono ?_; rintro e w3 ⟨rfl, hb3⟩
            have HT3 := hid (HT2.out.drew.call hb3)
            clear hb3
            go_wp2_with fail
            refine hK.out _ _ (HSq.out _ HT3.out) (fun hHeld => ?_)
            clear hK K
            try simp only [Act.put, List.setIfInBounds_toArray, List.set_cons_zero, List.set_cons_succ]
            refine wpAnyH_take (i := 2) (oi := { dst := some 10, op := Op.unOp UnOp.not 4 (Operand.tmp 9), type := 4, pos := "view.go:71", after := #[{ on := 1, ground := Ground.data }], guard := none }) (v := .bool false) rfl (by kernel_rfl) (by kernel_rfl) (by kernel_rfl) (fun _ _ _ h => h) (Or.inl ⟨by rfl, fun wS hSw => ?_⟩) (by assumption) ?_
            · clear hHeld
              clear hSw
              go_simp
            try simp only [Act.put, List.setIfInBounds_toArray, List.set_cons_zero, List.set_cons_succ]
            refine wpAnyH_take (i := 3) (oi := { dst := some 11, op := Op.move (Operand.tmp 10), type := 4, pos := "view.go:71", after := #[{ on := 2, ground := Ground.data }, { on := 1, ground := Ground.chain }], guard := none }) (v := .bool false) rfl (by kernel_rfl) (by kernel_rfl) (by kernel_rfl) (fun _ _ _ h => h) (Or.inl ⟨by rfl, fun wS hSw => ?_⟩) (by assumption) ?_
            · clear hHeld
              clear hSw
              go_simp
            try simp only [Act.put, List.setIfInBounds_toArray, List.set_cons_zero, List.set_cons_succ]
            refine wpAnyH_take (i := 4) (oi := { dst := some 12, op := Op.fieldAddr 53 (Operand.tmp 3) 4, type := 0, pos := "view.go:71", after := #[{ on := 3, ground := Ground.guard }], guard := some (3, false) }) (v := .pointer (some ⟨w.heap.size, 4, none⟩)) rfl (by kernel_rfl) (by kernel_rfl) (by kernel_rfl) (fun _ _ _ h => h) (Or.inl ⟨by rfl, fun wS hSw => ?_⟩) (by assumption) ?_
            · clear hHeld
              clear hSw
              go_simp
            try simp only [Act.put, List.setIfInBounds_toArray, List.set_cons_zero, List.set_cons_succ]
            refine wpAnyH_take (i := 5) (oi := { dst := some 13, op := Op.load 22 (Operand.tmp 12), type := 22, pos := "view.go:71", after := #[{ on := 4, ground := Ground.data }, { on := 3, ground := Ground.guard }], guard := some (3, false) }) (v := .int .u64 (C : Int)) rfl (by kernel_rfl) (by kernel_rfl) (by kernel_rfl) (fun _ _ _ h => h) (Or.inl ⟨by rfl, fun wS hSw => ?_⟩) (by assumption) ?_
            · clear hHeld
              obtain ⟨s0, s1, s4, s5⟩ := hSw
              go_simp
            try simp only [Act.put, List.setIfInBounds_toArray, List.set_cons_zero, List.set_cons_succ]
            refine wpAnyH_take (i := 6) (oi := { dst := some 14, op := Op.binOp BinOp.gtr 22 (Operand.tmp 13) (Operand.const (Value.int IntKind.u64 4611686018427387904)) 22, type := 4, pos := "view.go:71", after := #[{ on := 5, ground := Ground.data }, { on := 3, ground := Ground.guard }], guard := some (3, false) }) (v := .bool false) rfl (by kernel_rfl) (by kernel_rfl) (by kernel_rfl) (fun _ _ _ h => h) (Or.inl ⟨by rfl, fun wS hSw => ?_⟩) (by assumption) ?_
            · clear hHeld
              have hCC := hC
              clear hSw
              go_simp
            try simp only [Act.put, List.setIfInBounds_toArray, List.set_cons_zero, List.set_cons_succ]
            refine wpAnyH_take (i := 7) (oi := { dst := some 15, op := Op.pick (Operand.tmp 11) (Operand.const (Value.bool true)) (Operand.tmp 14), type := 4, pos := "view.go:71", after := #[{ on := 3, ground := Ground.data }, { on := 6, ground := Ground.data }], guard := none }) (v := .bool false) rfl (by kernel_rfl) (by kernel_rfl) (by kernel_rfl) (fun _ _ _ h => h) (Or.inl ⟨by rfl, fun wS hSw => ?_⟩) (by assumption) ?_
            · clear hHeld
              clear hSw
              go_simp
            try simp only [Act.put, List.setIfInBounds_toArray, List.set_cons_zero, List.set_cons_succ]
            refine wpAnyH_take (i := 8) (oi := { dst := some 16, op := Op.move (Operand.tmp 15), type := 4, pos := "view.go:71", after := #[{ on := 7, ground := Ground.data }, { on := 3, ground := Ground.chain }], guard := none }) (v := .bool false) rfl (by kernel_rfl) (by kernel_rfl) (by kernel_rfl) (fun _ _ _ h => h) (Or.inl ⟨by rfl, fun wS hSw => ?_⟩) (by assumption) ?_
            · clear hHeld
              clear hSw
              go_simp
            try simp only [Act.put, List.setIfInBounds_toArray, List.set_cons_zero, List.set_cons_succ]
            refine wpAnyH_take (i := 9) (oi := { dst := some 17, op := Op.fieldAddr 53 (Operand.tmp 3) 1, type := 0, pos := "view.go:71", after := #[{ on := 8, ground := Ground.guard }], guard := some (8, false) }) (v := .pointer (some ⟨w.heap.size, 1, none⟩)) rfl (by kernel_rfl) (by kernel_rfl) (by kernel_rfl) (fun _ _ _ h => h) (Or.inl ⟨by rfl, fun wS hSw => ?_⟩) (by assumption) ?_
            · clear hHeld
              clear hSw
              go_simp
            try simp only [Act.put, List.setIfInBounds_toArray, List.set_cons_zero, List.set_cons_succ]
            refine wpAnyH_take (i := 10) (oi := { dst := some 18, op := Op.load 3 (Operand.tmp 17), type := 3, pos := "view.go:71", after := #[{ on := 9, ground := Ground.data }, { on := 8, ground := Ground.guard }], guard := some (8, false) }) (v := .int .i64 F) rfl (by kernel_rfl) (by kernel_rfl) (by kernel_rfl) (fun _ _ _ h => h) (Or.inl ⟨by rfl, fun wS hSw => ?_⟩) (by assumption) ?_
            · clear hHeld
              obtain ⟨s0, s1, s4, s5⟩ := hSw
              go_simp
            try simp only [Act.put, List.setIfInBounds_toArray, List.set_cons_zero, List.set_cons_succ]
            refine wpAnyH_take (i := 11) (oi := { dst := some 19, op := Op.move (Operand.tmp 0), type := 50, pos := "view.go:71", after := #[{ on := 8, ground := Ground.guard }], guard := some (8, false) }) (v := .pointer (some ⟨b, 0, none⟩)) rfl (by kernel_rfl) (by kernel_rfl) (by kernel_rfl) (fun _ _ _ h => h) (Or.inl ⟨by rfl, fun wS hSw => ?_⟩) (by assumption) ?_
            · clear hHeld
              clear hSw
              go_simp
            try simp only [Act.put, List.setIfInBounds_toArray, List.set_cons_zero, List.set_cons_succ]
            refine wpAnyH_take (i := 12) (oi := { dst := some 20, op := Op.nilCheck (Operand.tmp 19), type := 0, pos := "view.go:71", after := #[{ on := 11, ground := Ground.data }, { on := 8, ground := Ground.guard }], guard := some (8, false) }) (v := .pointer (some ⟨b, 0, none⟩)) rfl (by kernel_rfl) (by kernel_rfl) (by kernel_rfl) (fun _ _ _ h => h) (Or.inl ⟨by rfl, fun wS hSw => ?_⟩) (by assumption) ?_
            · clear hHeld
              clear hSw
              go_simp
            try simp only [Act.put, List.setIfInBounds_toArray, List.set_cons_zero, List.set_cons_succ]
            refine wpAnyH_take (i := 13) (oi := { dst := some 21, op := Op.fieldAddr 109 (Operand.tmp 20) 0, type := 0, pos := "view.go:71", after := #[{ on := 12, ground := Ground.data }, { on := 8, ground := Ground.guard }], guard := some (8, false) }) (v := .pointer (some ⟨b, 0, none⟩)) rfl (by kernel_rfl) (by kernel_rfl) (by kernel_rfl) (fun _ _ _ h => h) (Or.inl ⟨by rfl, fun wS hSw => ?_⟩) (by assumption) ?_
            · clear hHeld
              clear hSw
              go_simp
            try simp only [Act.put, List.setIfInBounds_toArray, List.set_cons_zero, List.set_cons_succ]
            refine wpAnyH_take (i := 14) (oi := { dst := some 22, op := Op.load 3 (Operand.tmp 21), type := 3, pos := "view.go:71", after := #[{ on := 13, ground := Ground.data }, { on := 8, ground := Ground.guard }], guard := some (8, false) }) (v := .int .i64 (me : Int)) rfl (by kernel_rfl) (by kernel_rfl) (by kernel_rfl) (fun _ _ _ h => h) (Or.inl ⟨by rfl, fun wS hSw => ?_⟩) (by assumption) ?_
            · clear hHeld
              obtain ⟨s0, s1, s4, s5⟩ := hSw
              go_simp
            try simp only [Act.put, List.setIfInBounds_toArray, List.set_cons_zero, List.set_cons_succ]
            refine wpAnyH_take (i := 15) (oi := { dst := some 23, op := Op.binOp BinOp.eql 3 (Operand.tmp 18) (Operand.tmp 22) 3, type := 4, pos := "view.go:71", after := #[{ on := 10, ground := Ground.data }, { on := 14, ground := Ground.data }, { on := 8, ground := Ground.guard }], guard := some (8, false) }) (v := .bool false) rfl (by kernel_rfl) (by kernel_rfl) (by kernel_rfl) (fun _ _ _ h => h) (Or.inl ⟨by rfl, fun wS hSw => ?_⟩) (by assumption) ?_
            · clear hHeld
              have hFF := hF
              clear hSw
              go_simp
            try simp only [Act.put, List.setIfInBounds_toArray, List.set_cons_zero, List.set_cons_succ]
            refine wpAnyH_take (i := 16) (oi := { dst := some 24, op := Op.pick (Operand.tmp 16) (Operand.const (Value.bool true)) (Operand.tmp 23), type := 4, pos := "view.go:71", after := #[{ on := 8, ground := Ground.data }, { on := 15, ground := Ground.data }], guard := none }) (v := .bool false) rfl (by kernel_rfl) (by kernel_rfl) (by kernel_rfl) (fun _ _ _ h => h) (Or.inl ⟨by rfl, fun wS hSw => ?_⟩) (by assumption) ?_
            · clear hHeld
              clear hSw
              go_simp
            try simp only [Act.put, List.setIfInBounds_toArray, List.set_cons_zero, List.set_cons_succ]
            refine wpAnyH_take (i := 17) (oi := { dst := some 25, op := Op.move (Operand.tmp 24), type := 4, pos := "view.go:71", after := #[{ on := 16, ground := Ground.data }, { on := 8, ground := Ground.chain }], guard := none }) (v := .bool false) rfl (by kernel_rfl) (by kernel_rfl) (by kernel_rfl) (fun _ _ _ h => h) (Or.inl ⟨by rfl, fun wS hSw => ?_⟩) (by assumption) ?_
            · clear hHeld
              clear hSw
              go_simp
            try simp only [Act.put, List.setIfInBounds_toArray, List.set_cons_zero, List.set_cons_succ]
            refine wpAnyH_take (i := 18) (oi := { dst := some 26, op := Op.move (Operand.tmp 5), type := 3, pos := "view.go:71", after := #[{ on := 17, ground := Ground.guard }], guard := some (17, false) }) (v := .int .i64 N) rfl (by kernel_rfl) (by kernel_rfl) (by kernel_rfl) (fun _ _ _ h => h) (Or.inl ⟨by rfl, fun wS hSw => ?_⟩) (by assumption) ?_
            · clear hHeld
              clear hSw
              go_simp
            try simp only [Act.put, List.setIfInBounds_toArray, List.set_cons_zero, List.set_cons_succ]
            refine wpAnyH_take (i := 19) (oi := { dst := some 27, op := Op.move (Operand.tmp 0), type := 50, pos := "view.go:71", after := #[{ on := 17, ground := Ground.guard }], guard := some (17, false) }) (v := .pointer (some ⟨b, 0, none⟩)) rfl (by kernel_rfl) (by kernel_rfl) (by kernel_rfl) (fun _ _ _ h => h) (Or.inl ⟨by rfl, fun wS hSw => ?_⟩) (by assumption) ?_
            · clear hHeld
              clear hSw
              go_simp
            try simp only [Act.put, List.setIfInBounds_toArray, List.set_cons_zero, List.set_cons_succ]
            refine wpAnyH_take (i := 20) (oi := { dst := some 28, op := Op.nilCheck (Operand.tmp 27), type := 0, pos := "view.go:71", after := #[{ on := 19, ground := Ground.data }, { on := 17, ground := Ground.guard }], guard := some (17, false) }) (v := .pointer (some ⟨b, 0, none⟩)) rfl (by kernel_rfl) (by kernel_rfl) (by kernel_rfl) (fun _ _ _ h => h) (Or.inl ⟨by rfl, fun wS hSw => ?_⟩) (by assumption) ?_
            · clear hHeld
              clear hSw
              go_simp
            try simp only [Act.put, List.setIfInBounds_toArray, List.set_cons_zero, List.set_cons_succ]
            refine wpAnyH_take (i := 21) (oi := { dst := some 29, op := Op.fieldAddr 109 (Operand.tmp 28) 0, type := 0, pos := "view.go:71", after := #[{ on := 20, ground := Ground.data }, { on := 17, ground := Ground.guard }], guard := some (17, false) }) (v := .pointer (some ⟨b, 0, none⟩)) rfl (by kernel_rfl) (by kernel_rfl) (by kernel_rfl) (fun _ _ _ h => h) (Or.inl ⟨by rfl, fun wS hSw => ?_⟩) (by assumption) ?_
            · clear hHeld
              clear hSw
              go_simp
            try simp only [Act.put, List.setIfInBounds_toArray, List.set_cons_zero, List.set_cons_succ]
            refine wpAnyH_take (i := 22) (oi := { dst := some 30, op := Op.load 3 (Operand.tmp 29), type := 3, pos := "view.go:71", after := #[{ on := 21, ground := Ground.data }, { on := 17, ground := Ground.guard }], guard := some (17, false) }) (v := .int .i64 (me : Int)) rfl (by kernel_rfl) (by kernel_rfl) (by kernel_rfl) (fun _ _ _ h => h) (Or.inl ⟨by rfl, fun wS hSw => ?_⟩) (by assumption) ?_
            · clear hHeld
              obtain ⟨s0, s1, s4, s5⟩ := hSw
              go_simp
            try simp only [Act.put, List.setIfInBounds_toArray, List.set_cons_zero, List.set_cons_succ]
            refine wpAnyH_take (i := 23) (oi := { dst := some 31, op := Op.binOp BinOp.eql 3 (Operand.tmp 26) (Operand.tmp 30) 3, type := 4, pos := "view.go:71", after := #[{ on := 18, ground := Ground.data }, { on := 22, ground := Ground.data }, { on := 17, ground := Ground.guard }], guard := some (17, false) }) (v := .bool false) rfl (by kernel_rfl) (by kernel_rfl) (by kernel_rfl) (fun _ _ _ h => h) (Or.inl ⟨by rfl, fun wS hSw => ?_⟩) (by assumption) ?_
            · clear hHeld
              have hNN := hN
              clear hSw
              go_simp
            try simp only [Act.put, List.setIfInBounds_toArray, List.set_cons_zero, List.set_cons_succ]
            refine wpAnyH_take (i := 24) (oi := { dst := some 32, op := Op.pick (Operand.tmp 25) (Operand.const (Value.bool true)) (Operand.tmp 31), type := 4, pos := "view.go:71", after := #[{ on := 17, ground := Ground.data }, { on := 23, ground := Ground.data }], guard := none }) (v := .bool false) rfl (by kernel_rfl) (by kernel_rfl) (by kernel_rfl) (fun _ _ _ h => h) (Or.inl ⟨by rfl, fun wS hSw => ?_⟩) (by assumption) ?_
            · clear hHeld
              clear hSw
              go_simp
            try simp only [Act.put, List.setIfInBounds_toArray, List.set_cons_zero, List.set_cons_succ]
            refine wpAnyH_done (by kernel_rfl) ?_ _
            clear hHeld
            go_wp2_with fail
            go_meet
            exact ⟨by rw [HB.out], HT3.out⟩

  case rest =>
    obtain ⟨rfl, HT⟩ := hcut
    cases B with
    | true =>
      go_wp2_with fail
      go_ret
      exact ptake_no_end (HNo.out trivial) HT.out
    | false =>
      obtain ⟨hse, rfl, hof, hn⟩ := HYes.out rfl
      have HSe := hid hse
      have HOf := hid hof
      have HNn := hid hn
      have hnz : (n : Int) < 64 := by omega
      clear hse hof hn HT2 HSq HRt HCl HNo HYes HB0
      have HTx := hid HT.out
      clear HT
      generalize wc = w4 at *
      obtain ⟨p0, p1, p2, p3, p4⟩ := HTx.out.pk.cells
      rw [HM.out.2.2.2.1] at p4
      have c1 := HTx.out.vb.cur_
      have f1 := HTx.out.vb.frozen 16449
      obtain ⟨cu, hcu⟩ : ∃ cu, v.cur = cu := ⟨_, rfl⟩
      rw [hcu] at c1
      have HCu := hid hcu
      clear hcu
      go_upto_region 4 with fail
      go_cut [] (fun wx => Hid (Tp w wx b (take1 v p) p))
      case first =>
        by_cases hmx : (cu : Int) < (C : Int)
        · have hmxx : max (cu : Int) (C : Int) = (C : Int) := by omega
          have HT4 : Hid (Tp w (w4.setCell ⟨b, 16449, none⟩ (.int .u64 (C : Int))) b (take1 v p) p) := by
            have e : take1 v p = { v with cur := C } := by unfold take1; rw [HM.out.2.2.2.1, HCu.out, Nat.max_eq_right (by omega)]
            exact HTx.out.turn (by rw [e]; exact HTx.out.vb.setCur C) ((Only.refl b w4).setCell 16449 _) HW.out
          go_region
          go_wp2_with fail
          go_meet
          exact HT4.out.drew
        · have hmxx : max (cu : Int) (C : Int) = (cu : Int) := by omega
          have HT4 : Hid (Tp w (w4.setCell ⟨b, 16449, none⟩ (.int .u64 (cu : Int))) b (take1 v p) p) := by
            have e : take1 v p = { v with cur := cu } := by unfold take1; rw [HM.out.2.2.2.1, HCu.out, Nat.max_eq_left (by omega)]
            exact HTx.out.turn (by rw [e]; exact HTx.out.vb.setCur cu) ((Only.refl b w4).setCell 16449 _) HW.out
          go_region
          go_wp2_with fail
          go_meet
          exact HT4.out.drew
      case rest =>
      have HT5 := hid hcut.out
      clear hcut HTx HCu c1 f1 p0 p1 p2 p3 p4
      generalize wc = w5 at *
      obtain ⟨x, hx⟩ : ∃ x, (take1 v p).ep n = x := ⟨_, rfl⟩
      have HX := hid hx
      obtain ⟨p0, p1, p2, p3, p4⟩ := HT5.out.pk.cells
      rw [HM.out.2.2.2.2] at p3
      have ce := HT5.out.vb.ep_ HNn.out
      rw [hx] at ce
      clear hx p0 p1 p2 p4
      go_upto_region 5 with fail
      go_cut [51] (fun c wx => c = .bool (decide (x ≤ EP)) ∧ Hid (Tp w wx b (take1 v p) p))
      case first =>
        by_cases hge : x ≤ EP
        · have hgz : (x : Int) ≤ (EP : Int) := by omega
          have HD : Hid (decide (x ≤ EP) = true) := decide_eq_true hge
          clear hge
          go_region
          go_wp2_with fail
          go_meet
          exact ⟨by rw [HD.out], HT5.out.drew⟩
        · have hgz : (EP : Int) < (x : Int) := by omega
          have HD : Hid (decide (x ≤ EP) = false) := decide_eq_false hge
          clear hge
          go_region
          go_wp2_with fail
          go_meet
          exact ⟨by rw [HD.out], HT5.out.drew⟩
      case rest =>
      obtain ⟨rfl, HT6⟩ := hcut
      clear HT5 p3 ce
      generalize wc = w6 at *
      have HBe : Hid (∀ W, VB W b (take1 v p) → Calls Tryz.prog 51 #[.pointer (some ⟨b, 0, none⟩), .int .i64 (n : Int), .int .u64 (EP : Int), .agg (cellsOf p.cl)] W fun r w' => (∃ x, r = .returned x) ∧ VB w' b (claimV (take1 v p) n p) ∧ Only b W w') := fun W h => by
        have := believe_any b n p.epoch (take1 v p) p.cl W h HNn.out HOk.out.own
        rw [HM.out.2.2.2.2] at this
        refine this.mono ?_
        rintro r w' ⟨h1, h2, h3⟩
        rw [← HM.out.2.2.2.2] at h2
        exact ⟨h1, bl3_end h2, h3⟩
      have iC := infoBl (S := p.cl)
      have HPr : Hid (w6.rangeAt w.heap.size 5 (cellsOf p.cl).toList) := HT6.out.pk.range
      obtain ⟨CS, hCS⟩ : ∃ C, cellsOf p.cl = C := ⟨_, rfl⟩
      rw [hCS] at HBe iC HPr
      clear hCS
      obtain ⟨p0, p1, p2, p3, p4⟩ := HT6.out.pk.cells
      rw [HM.out.2.2.2.2] at p3
      clear p0 p1 p2 p4
      go_upto_if 51 with fail
      go_cut [] (fun wx => Hid (Tp w wx b (take2 v p) p))
      case first =>
        by_cases hr : x ≤ EP
        · have HR := hid hr
          have hrb := decide_eq_true hr
          generalize decide (x ≤ EP) = RB at hrb ⊢
          subst hrb
          clear hr
          go_wp2_with (refine wpList_load_mid rfl 24 _ rfl w.heap.size 5 rfl _ _ HPr.out Tryz.underlying24 rfl iC ?_; rw [Array.toArray_toList])
          refine (HBe.out _ HT6.out.vb).mono ?_; rintro e w7 ⟨⟨y, rfl⟩, hv, ho⟩
          have HT7 : Hid (Tp w w7 b (take2 v p) p) := by
            have e : take2 v p = claimV (take1 v p) n p := by unfold take2; rw [HOf.out, HX.out, HM.out.2.2.2.2, if_pos HR.out]
            exact HT6.out.turn (by rw [e]; exact hv) ho HW.out
          clear hv ho
          go_wp2_with fail
          go_meet
          exact HT7.out
        · have HR := hid hr
          have hrb := decide_eq_false hr
          generalize decide (x ≤ EP) = RB at hrb ⊢
          subst hrb
          clear hr
          go_wp2_with fail
          go_meet
          have e : take2 v p = take1 v p := by unfold take2; rw [HOf.out, HX.out, HM.out.2.2.2.2, if_neg HR.out]
          show Tp w _ b _ p
          rw [e]
          exact HT6.out
      case rest =>
      have HT8 := hid hcut.out
      clear hcut HT6 HBe iC HPr p3 HX
      generalize wc = w8 at *
      obtain ⟨p0, p1, p2, p3, p4⟩ := HT8.out.pk.cells
      rw [HM.out.2.1] at p0
      rw [HM.out.2.2.2.2] at p3
      clear p1 p2 p4
      by_cases k3 : KD = 3
      · subst k3
        go_wp2_with fail
        go_ret
        exact ptake_upd_end HSe.out HM.out.2.1 HT8.out
      · have h3f : (KD == 3) = false := beq_eq_false_iff_ne.2 k3
        have HK3 : Hid (p.kind ≠ 3) := by rw [HM.out.2.1]; exact k3
        have hs2 : (take2 v p).self = me := (take2_self v p).trans HM.out.1
        have hml : me < 64 := by rw [← HM.out.1]; exact HOk.out.self
        have HMl := hid hml
        have HS2 := hid hs2
        have hmz : (me : Int) < 64 := by omega
        have c0 := HT8.out.vb.self_
        rw [hs2] at c0
        have ce := HT8.out.vb.ep_ hml
        obtain ⟨y, hy⟩ : ∃ y, (take2 v p).ep me = y := ⟨_, rfl⟩
        rw [hy] at ce
        have HY := hid hy
        clear hy hs2 hml k3
        go_upto_region 9 with fail
        go_cut [81] (fun c wx => c = .bool (decide (EP = y ∧ me < n)) ∧ Hid (Tp w wx b (take2 v p) p))
        case first =>
          by_cases e1 : EP = y
          · subst e1
            have e1b : ((EP : Int) == (EP : Int)) = true := by simp
            by_cases e2 : me < n
            · have e2z : (me : Int) < (n : Int) := by omega
              have HD : Hid (decide (EP = EP ∧ me < n) = true) := decide_eq_true ⟨rfl, e2⟩
              clear e2
              go_region
              go_wp2_with fail
              go_meet
              exact ⟨by rw [HD.out], HT8.out.drew⟩
            · have e2z : (n : Int) ≤ (me : Int) := by omega
              have HD : Hid (decide (EP = EP ∧ me < n) = false) := decide_eq_false (fun c => e2 c.2)
              have HE2 : Hid (decide (me < n) = false) := decide_eq_false e2
              clear e2
              go_region
              go_wp2_with fail
              go_meet
              exact ⟨by rw [HD.out, HE2.out], HT8.out.drew⟩
          · have e1b : ((EP : Int) == (y : Int)) = false := beq_eq_false_iff_ne.2 (by omega)
            have e1c : ¬ (EP : Int) = (y : Int) := by omega
            have HD : Hid (decide (EP = y ∧ me < n) = false) := decide_eq_false (fun c => e1 c.1)
            clear e1
            go_region
            go_wp2_with fail
            go_meet
            exact ⟨by rw [HD.out], HT8.out.drew⟩
        case rest =>
        obtain ⟨rfl, HT9⟩ := hcut
        clear HT8 p0 p3 c0 ce
        generalize wc = w9 at *
        have HRi : Hid (∀ W, VB W b (take2 v p) → Calls Tryz.prog 71 #[.pointer (some ⟨b, 0, none⟩)] W fun e w' => e = .returned (.tuple #[]) ∧ VB w' b (raiseV (take2 v p)) ∧ Only b W w') := fun W h => by
          have h2 := take2_ok HOk.out HSe.out
          have := h2.cur
          exact rise_any b _ W h h2.self (by have : big = 4611686018427387904 := rfl; omega)
        go_upto_if 81 with fail
        go_cut [] (fun wx => Hid (Tp w wx b (take3 v p) p))
        case first =>
          by_cases hr : EP = y ∧ me < n
          · have HR := hid hr
            have hrb := decide_eq_true hr
            generalize decide (EP = y ∧ me < n) = RB at hrb ⊢
            subst hrb
            clear hr
            go_wp2_with fail
            refine (HRi.out _ HT9.out.vb).mono ?_; rintro e wA ⟨rfl, hv, ho⟩
            have HTA : Hid (Tp w wA b (take3 v p) p) := by
              have e : take3 v p = raiseV (take2 v p) := by unfold take3; rw [if_pos ⟨HK3.out, by rw [HS2.out, HY.out, HM.out.2.2.2.2]; exact HR.out.1, by rw [HS2.out, HOf.out]; exact HR.out.2⟩]
              exact HT9.out.turn (by rw [e]; exact hv) ho HW.out
            clear hv ho
            go_wp2_with fail
            go_meet
            exact HTA.out
          · have HR := hid hr
            have hrb := decide_eq_false hr
            generalize decide (EP = y ∧ me < n) = RB at hrb ⊢
            subst hrb
            clear hr
            go_wp2_with fail
            go_meet
            have e : take3 v p = take2 v p := by
              unfold take3
              rw [if_neg]
              rintro ⟨-, c1, c2⟩
              rw [HS2.out, HY.out, HM.out.2.2.2.2] at c1
              rw [HS2.out, HOf.out] at c2
              exact HR.out ⟨c1, c2⟩
            show Tp w _ b _ p
            rw [e]
            exact HT9.out
        case rest =>
        have HTB := hid hcut.out
        clear hcut HT9 HRi HY HS2
        generalize wc = wB at *
        have HAn : Hid (∀ W, VB W b (take3 v p) → Calls Tryz.prog 72 #[.pointer (some ⟨b, 0, none⟩), .agg PC] W (AnsP (take3 v p) p (KD == 1 || KD == 4) W)) := fun W h => by
          rw [← HPC.out]
          have hr := right_of (seen_right HSe.out).1
          have h3 := take_ok (p := p) HOk.out
          have e3 : takeV v p = take3 v p := by unfold takeV; rw [if_pos HSe.out]
          rw [e3] at h3
          exact answers_core b p.frm.toNat (take3 v p) p KD _ W h HM.out.2.1 hr.2.1.symm rfl h3.own hr.2.2.1 (fun W h => tell_any b 2 _ W h h3.self) (fun W m hm h => update_any b m _ W h hm)
        have HP0 := hid (HPk.out _ _ HTB.out.pk)
        go_wp2_with (refine wpList_load_row rfl 53 _ rfl w.heap.size rfl 53 _ (0, 0) _ HP0.out Tryz.underlying53 rfl iP2 (Hid.out ?_))
        refine hid ?_
        go_wp2_with fail
        refine (HAn.out _ HTB.out.vb).mono ?_; rintro e wC ⟨a, rfl, hop, hbl⟩
        have HE := hid (ptake_oth_end HSe.out HM.out.2.1 HK3.out HTB.out hop hbl)
        clear hop hbl
        go_wp2_with fail
        go_ret
        exact HE.out

end Go.Proofs.YtbfllifgmlkndaaGreatDoor
