/- VpI. -/
import Derived.Deep.RegionHeld3
import Derived.Test.YtbfllifgmlkndaaGreatDoorM34
import Derived.Test.YtbfllifgmlkndaaGreatDoorM32
namespace Go.Proofs.YtbfllifgmlkndaaGreatDoor
open Go.RowKit Go.Shelf
open Slot
attribute [local go_sem] Oper.semAt_some

/-- a call of believe on its way: what it has boxed -/
structure Bel (w wr : World) (b n e : Nat) (S : Nat → Bool) : Prop where
  p0 : wr.heap[w.heap.size]? = some (.cells #[.pointer (some ⟨b, 0, none⟩)] 50 (0, 0))
  p1 : wr.heap[w.heap.size + 1]? = some (.cells #[.int .i64 (n : Int)] 3 (0, 0))
  p2 : wr.heap[w.heap.size + 2]? = some (.cells #[.int .u64 (e : Int)] 22 (0, 0))
  p3 : Box wr (w.heap.size + 3) S
  only : Only b w wr
theorem Bel.cells {w wr : World} {b n e : Nat} {S : Nat → Bool} (h : Bel w wr b n e S) : wr.cell? ⟨w.heap.size, 0, none⟩ = some (.pointer (some ⟨b, 0, none⟩)) ∧ wr.cell? ⟨w.heap.size + 1, 0, none⟩ = some (.int .i64 (n : Int)) ∧ wr.cell? ⟨w.heap.size + 2, 0, none⟩ = some (.int .u64 (e : Int)) :=
  ⟨cell_of_row _ _ _ _ _ _ h.p0, cell_of_row _ _ _ _ _ _ h.p1, cell_of_row _ _ _ _ _ _ h.p2⟩
theorem Bel.lt {w wr : World} {b n e : Nat} {S : Nat → Bool} (h : Bel w wr b n e S) : w.heap.size + 3 < wr.heap.size := h.p3.lt
theorem Bel.go {w wr w' : World} {b n e : Nat} {S : Nat → Bool} (h : Bel w wr b n e S) (hb : Only b wr w') (hw : b < w.heap.size) : Bel w w' b n e S :=
  ⟨(hb.block _ (by have := h.lt; omega) (by omega)).trans h.p0, (hb.block _ (by have := h.lt; omega) (by omega)).trans h.p1, (hb.block _ (by have := h.lt; omega) (by omega)).trans h.p2, h.p3.only hb (by omega), h.only.trans hb⟩
theorem bel_new (w : World) (b n e : Nat) (S : Nat → Bool) : Bel w ((((w.alloc (.cells #[.pointer (some ⟨b, 0, none⟩)] 50)).alloc (.cells #[.int .i64 (n : Int)] 3)).alloc (.cells #[.int .u64 (e : Int)] 22)).alloc (.cells (cellsOf S) 24)) b n e S := by
  have e1 : (w.alloc (.cells #[.pointer (some ⟨b, 0, none⟩)] 50)).heap.size = w.heap.size + 1 := by simp
  have e2 : ((w.alloc (.cells #[.pointer (some ⟨b, 0, none⟩)] 50)).alloc (.cells #[.int .i64 (n : Int)] 3)).heap.size = w.heap.size + 2 := by simp
  have e3 : (((w.alloc (.cells #[.pointer (some ⟨b, 0, none⟩)] 50)).alloc (.cells #[.int .i64 (n : Int)] 3)).alloc (.cells #[.int .u64 (e : Int)] 22)).heap.size = w.heap.size + 3 := by simp
  have b3 := below_alloc ((w.alloc (.cells #[.pointer (some ⟨b, 0, none⟩)] 50)).alloc (.cells #[.int .i64 (n : Int)] 3)) (.cells #[.int .u64 (e : Int)] 22)
  have b4 := below_alloc (((w.alloc (.cells #[.pointer (some ⟨b, 0, none⟩)] 50)).alloc (.cells #[.int .i64 (n : Int)] 3)).alloc (.cells #[.int .u64 (e : Int)] 22)) (.cells (cellsOf S) 24)
  refine ⟨?_, ?_, ?_, ?_, ((((Only.refl b w).alloc _).alloc _).alloc _).alloc _⟩
  · exact (b4.block _ (by omega)).trans ((b3.block _ (by omega)).trans (heap_alloc2_old w _ _))
  · exact (b4.block _ (by omega)).trans ((b3.block _ (by omega)).trans (heap_alloc2_new w _ _))
  · have := heap_alloc_new ((w.alloc (.cells #[.pointer (some ⟨b, 0, none⟩)] 50)).alloc (.cells #[.int .i64 (n : Int)] 3)) (.cells #[.int .u64 (e : Int)] 22)
    rw [e2] at this
    exact (b4.block _ (by omega)).trans this
  · have := heap_alloc_new (((w.alloc (.cells #[.pointer (some ⟨b, 0, none⟩)] 50)).alloc (.cells #[.int .i64 (n : Int)] 3)).alloc (.cells #[.int .u64 (e : Int)] 22)) (.cells (cellsOf S) 24)
    rw [e3] at this
    exact this
theorem heap_kept {W W' : World} {row : Option Nat} {k : Nat} {C : Array Value} {t : TypeId} {fr : Nat × Nat} (h : W.heap[k]? = some (.cells C t fr)) (hg : W.grownBy W' row) (hr : ∀ r, row = some r → ∃ o : Obj, W.heap[r]? = some o ∧ o.isCells = false) : W'.heap[k]? = some (.cells C t fr) :=
  (grownBy_keeps_cells hg hr h rfl).trans h
theorem VB.kept {W W' : World} {row : Option Nat} {b : Nat} {v : Vw} (h : VB W b v) (hg : W.grownBy W' row) (hr : ∀ r, row = some r → ∃ o : Obj, W.heap[r]? = some o ∧ o.isCells = false) : VB W' b v := by
  obtain ⟨C, h1, h2⟩ := h
  exact ⟨C, heap_kept h1 hg hr, h2⟩
theorem only_kept {w W W' : World} {b B : Nat} {row : Option Nat} (h : Only b w W) (hB : w.heap.size ≤ B) (hg : W.grownBy W' row) (hr : ∀ r, row = some r → B ≤ r ∧ ∃ o : Obj, W.heap[r]? = some o ∧ o.isCells = false) : Only b w W' :=
  ⟨hg.os.trans h.os, hg.tape.trans h.tape, hg.output.trans h.output, Nat.le_trans h.size hg.size, fun k hk hne => (hg.block k (Nat.lt_of_lt_of_le hk h.size) (fun e => by have := (hr k e.symm).1; omega)).trans (h.block k hk hne)⟩
theorem Bel.kept {w W W' : World} {b n e B : Nat} {S : Nat → Bool} {row : Option Nat} (h : Bel w W b n e S) (hB : w.heap.size ≤ B) (hg : W.grownBy W' row) (hr : ∀ r, row = some r → B ≤ r ∧ ∃ o : Obj, W.heap[r]? = some o ∧ o.isCells = false) : Bel w W' b n e S :=
  have hr' := fun r e => (hr r e).2
  ⟨heap_kept h.p0 hg hr', heap_kept h.p1 hg hr', heap_kept h.p2 hg hr', heap_kept h.p3 hg hr', only_kept h.only hB hg hr⟩
theorem set_far {W : World} {b j k i : Nat} {v : Value} (h : k ≠ b) : (W.setCell ⟨b, j, none⟩ v).cell? ⟨k, i, none⟩ = W.cell? ⟨k, i, none⟩ := World.cell?_of_block (Below.heap_setCell W ⟨b, j, none⟩ v k h)
def svals (l : List Sl) : List Nat := l.map (·.1)
theorem svals_snoc (l : List Sl) (x : Sl) : svals (l ++ [x]) = svals l ++ [x.1] := by unfold svals; rw [List.map_append]; rfl
theorem bl3_nil {w : World} {b n e : Nat} {v : Vw} (h : VB w b (bl2 v n e 16384)) : VB w b (bl3 v n e (svals [])) := by
  refine h.congr rfl (fun s _ => ?_) (fun _ _ => rfl) rfl
  unfold bl3 svals
  simp
theorem bl3_le {v : Vw} {n e : Nat} {l : List Nat} (ho : ∀ s, v.own s ≤ 64) (hn : n < 64) (s : Nat) : (bl3 v n e l).own s ≤ 64 := by
  have h2 : (bl2 v n e 16384).own s ≤ 64 := by
    show (if s < 16384 ∧ v.own s = n then 64 else v.own s) ≤ 64
    have := ho s
    split <;> omega
  show (if s ∈ l ∧ ((bl2 v n e 16384).own s = 64 ∨ (bl1 v n e).ep ((bl2 v n e 16384).own s) < e) then n else (bl2 v n e 16384).own s) ≤ 64
  split <;> omega
set_option maxHeartbeats 4000000 in
set_option maxRecDepth 100000 in
theorem believe_any (b n e : Nat) (v : Vw) (S : Nat → Bool) (w : World) (hV : VB w b v) (hn : n < 64) (ho : ∀ s, v.own s ≤ 64) : Calls Tryz.prog 51 #[.pointer (some ⟨b, 0, none⟩), .int .i64 (n : Int), .int .u64 (e : Int), .agg (cellsOf S)] w fun r w' => (∃ x, r = .returned x) ∧ VB w' b (bl3 v n e (slots S)) ∧ Only b w w' := by
  have hw := hV.lt
  have HB0 := hid (bel_new w b n e S)
  have HV0 := hid (hV.below ((((below_alloc w (.cells #[.pointer (some ⟨b, 0, none⟩)] 50)).alloc (by simp) (.cells #[.int .i64 (n : Int)] 3)).alloc (by simp; omega) (.cells #[.int .u64 (e : Int)] 22)).alloc (by simp; omega) (.cells (cellsOf S) 24)) hw)
  have HW := hid hw
  have HN := hid hn
  have HO := hid ho
  have hnz : (n : Int) < 64 := by omega
  have HSo := hid (fun W => slotsof_any S W)
  obtain ⟨CS, hCS⟩ : ∃ C, cellsOf S = C := ⟨_, rfl⟩
  have HCS := hid hCS
  rw [hCS] at HB0 HV0 HSo ⊢
  clear hV hw hn ho hCS
  refine (callsIn_wide (n := 3)).1 ?_
  refine callsIn_of_wp_marks Tryz.func51 rfl trivial ?_ rfl
  simp only [Tryz.ntmps51, List.size_toArray, List.length_cons, List.length_nil, Nat.reduceAdd, Nat.reduceSub, Array.replicate_succ, Array.replicate_zero, List.push_toArray, List.append_toArray, List.nil_append, List.cons_append]
  refine wpIn_wide.2 ?_
  go_upto_region 1 with fail
  generalize ((((w.alloc (.cells #[.pointer (some ⟨b, 0, none⟩)] 50)).alloc (.cells #[.int .i64 (n : Int)] 3)).alloc (.cells #[.int .u64 (e : Int)] 22)).alloc (.cells CS 24)) = w4 at *
  obtain ⟨c0, c1, c2⟩ := HB0.out.cells
  have ce := HV0.out.ep_ HN.out
  have fe := HV0.out.frozen (16385 + n)
  have HV1 : Hid (VB (w4.setCell ⟨b, 16385 + n, none⟩ (.int .u64 (e : Int))) b (bl2 v n e 0)) := by
    refine (HV0.out.setEp HN.out e).congr rfl (fun s _ => ?_) (fun _ _ => rfl) rfl
    show (if s < 0 ∧ v.own s = n then 64 else v.own s) = v.own s
    rw [if_neg (fun z => Nat.not_lt_zero _ z.1)]
  have HB1 := hid (HB0.out.go (Only.setCell (Only.refl b w4) (16385 + n) (.int .u64 (e : Int))) HW.out)
  go_region
  have HV2 := hid (HV1.out.turn (w' := (w4.setCell ⟨b, 16385 + n, none⟩ (.int .u64 (e : Int))).drew) rfl)
  have HB2 := hid (HB1.out.go (w' := (w4.setCell ⟨b, 16385 + n, none⟩ (.int .u64 (e : Int))).drew) (Only.refl b _).drew HW.out)
  generalize (w4.setCell ⟨b, 16385 + n, none⟩ (.int .u64 (e : Int))).drew = w5 at HV2 HB2 ⊢
  clear c0 c1 c2 ce fe HV1 HB1 HB0 HV0
  obtain ⟨OW, q1, q2, q3⟩ := HV2.out.owners
  have HOW : Hid (∀ s, s < 16384 → OW[s]? = some (.int .i8 (ownZ (v.own s)))) := fun s hs => by
    rw [q2 s hs]
    show some (Value.int .i8 (ownZ (if s < 0 ∧ v.own s = n then 64 else v.own s))) = _
    rw [if_neg (fun z => Nat.not_lt_zero _ z.1)]
  have iO := infoOwn q1
  have HQ := hid q3
  clear q1 q2 q3
  obtain ⟨c0, c1, c2⟩ := HB2.out.cells
  go_wp2_with (refine wpList_load_mid rfl 106 _ rfl b 1 rfl _ _ HQ.out Tryz.underlying106 rfl iO (Hid.out ?_))
  refine hid ?_
  rw [Array.toArray_toList]
  clear c0 c1 c2
  go_wp2_with fail
  go_loopw [22] (fun c22 wr => ∃ k : Nat, c22 = .int .i64 (k : Int) ∧ k ≤ 16384 ∧ Hid (VB wr b (bl2 v n e k)) ∧ Hid (Bel w wr b n e S)) (fun c _ => 16384 - (intOf c).toNat)
  case atStart => exact ⟨0, rfl, Nat.zero_le _, HV2.out, HB2.out⟩
  case round =>
    obtain ⟨k, rfl, hk, HVk, HBk⟩ := hrel
    obtain ⟨c0, c1, c2⟩ := HBk.out.cells
    by_cases hlt : k < 16384
    · have hkz : (k : Int) < 16384 := by omega
      have hix := fun W => index_own hlt (HOW.out k hlt) W
      have cO := HVk.out.own_ hlt
      have fO := HVk.out.frozen (1 + k)
      obtain ⟨z0, z1⟩ := ownZ_lt (v.own k)
      have hw := HO.out k
      have hwr : IntKind.i64.wrap (ownZ (v.own k)) = ownZ (v.own k) := by rw [IntKind.wrap_i64]; omega
      by_cases hn : v.own k = n
      · have HV3 := hid (bl2_step HVk.out hlt hn)
        have HB3 := hid (HBk.out.go (Only.setCell (Only.refl b wr) (1 + k) (.int .i8 (-1))) HW.out)
        have hz : ownZ (v.own k) = (n : Int) := by have := HN.out; rw [hn]; unfold ownZ; rw [if_pos this]
        rw [hz] at hix hwr
        clear hn z0 z1 hw hz
        go_wp2
        go_roundw
        case rel => exact ⟨k + 1, by go_num, by omega, HV3.out, HB3.out⟩
        case measure => simp [intOf]; omega
      · have HV3 := hid (bl2_same HVk.out hn)
        have hb : (ownZ (v.own k) == (n : Int)) = false := by
          rw [beq_eq_false_iff_ne]
          unfold ownZ
          split <;> omega
        generalize ownZ (v.own k) = z at *
        have hb2 : ¬ z = (n : Int) := by simpa using hb
        clear hn z0 z1 hw
        go_wp2
        go_roundw
        case rel => exact ⟨k + 1, by go_num, by omega, HV3.out, HBk.out⟩
        case measure => simp [intOf]; omega
    · obtain rfl : k = 16384 := by omega
      have HCs : Hid (wr.heap[w.heap.size + 3]? = some (.cells CS 24 (0, 0))) := by show _ = _; rw [← HCS.out]; exact HBk.out.p3
      have iC : (Tryz.prog.info? 24).map (·.size) = some CS.size := by rw [← HCS.out]; exact infoBits _
      go_wp2_with (refine wpList_load_row rfl 24 _ rfl (w.heap.size + 3) rfl 24 _ (0, 0) _ HCs.out Tryz.underlying24 rfl iC ?_)
      refine (HSo.out _).mono ?_; rintro r w6 ⟨rfl, rfl⟩
      go_wp2_with fail
      have HBx : Hid (Box (wr.alloc (.cells CS 24)) wr.heap.size S) := by
        show _ = _
        rw [← HCS.out]; exact heap_alloc_new wr _
      have HVx : Hid (VB (wr.alloc (.cells CS 24)) b (bl3 v n e (svals []))) := bl3_nil (HVk.out.below (below_alloc wr _) HVk.out.lt)
      have HB6 := hid (HBk.out.go ((Only.refl b wr).alloc (.cells CS 24)) HW.out)
      have HWs : Hid (w.heap.size ≤ (wr.alloc (.cells CS 24)).heap.size) := HB6.out.only.size
      generalize wr.alloc (.cells CS 24) = W0 at HBx HVx HB6 HWs ⊢
      generalize wr.heap.size = bn at HBx ⊢
      clear c0 c1 c2 HCs HVk HBk HQ HV2 HB2 HOW
      refine wpIn_wide.1 (wpIn_rangeFunc_ownF (n := 3) (F := Fence.wide) rfl (by omega) (gf := 93) (lb := #[.pointer (some ⟨bn, 0, none⟩)]) rfl trivial (enters_of Tryz.func93 (by kernel_rfl) rfl)
        (slots_stops 2 bn b S W0 (by omega) HBx.out HVx.out.lt) kpb_t (fun W l o o' _ h hc _ => kpb_b W l o o' h hc) (Below.refl _ _) (fun _ => rfl)
        (fun (pre : List Sl) (W : World) => VB W b (bl3 v n e (svals pre)) ∧ Bel w W b n e S) (fun _ _ _ => False)
        (fun s A B row hs hg hr => ⟨hs.1.kept hg (fun r e => (hr r e).2), hs.2.kept HWs.out hg hr⟩) (fun _ _ _ _ _ hs _ _ => hs) ⟨HVx.out, HB6.out⟩
        (fun x => { tmps := #[.pointer (some ⟨b, 0, none⟩), .int .i64 (n : Int), .int .u64 (e : Int), .agg CS, .pointer (some ⟨w.heap.size, 0, none⟩), .pointer (some ⟨w.heap.size + 1, 0, none⟩), .pointer (some ⟨w.heap.size + 1 + 1, 0, none⟩), .pointer (some ⟨w.heap.size + 1 + 1 + 1, 0, none⟩), u8, u9, .int .i64 (x.1 : Int), undef,
          .pointer (some ⟨b, 0, none⟩), .int .i64 (n : Int), .int .u64 (e : Int), .pointer (some ⟨b, 0, none⟩), .pointer (some ⟨b, 16385, none⟩), .pointer (some ⟨b, 16385 + n, none⟩), .pointer (some ⟨b, 0, none⟩), .pointer (some ⟨b, 0, none⟩), .pointer (some ⟨b, 1, none⟩), .agg OW, .int .i64 16384, .bool false, u24, u25, u26, u27, u28, u29, u30, u31, u32, u33, u34, u35,
          .agg CS, .func (.func 93) #[] #[.pointer (some ⟨bn, 0, none⟩)], .int .i64 (x.1 : Int), undef, undef, undef, undef, undef, undef, undef, undef, undef, undef, undef, undef, undef, undef, undef, undef, undef, undef, undef, undef, undef, undef], defers := [] }) ?assign ?body ?done ?stop)
      case assign =>
        intro l x W K hK
        gi_wp2
        exact hK
      case body =>
        rintro l pre ⟨x, hx⟩ W ⟨hV, hB⟩ -
        obtain ⟨c0, c1, c2⟩ := hB.cells
        have hO := owner_any b (bl3 v n e (svals pre)) (x : Int) W hV
        rw [ownI_in _ hx] at hO
        have HOw := hid hO
        have hle := bl3_le (e := e) (l := svals pre) HO.out HN.out x
        have cO := hV.own_ hx
        have fO := hV.frozen (1 + x)
        have hxz : (x : Int) < 16384 := by omega
        have HVx := hid hV
        have HBx := hid hB
        have HTk := hid (fun h => bl3_take (e := e) (l := svals pre) HVx.out hx HN.out h)
        have HKp := hid (fun h => bl3_keep (e := e) (x := x) (l := svals pre) HVx.out h)
        have HTd : Hid (tkB v n e (svals pre) x ↔ (bl3 v n e (svals pre)).own x = 64 ∨ (bl1 v n e).ep ((bl3 v n e (svals pre)).own x) < e) := Iff.rfl
        have hce : ∀ o, (bl3 v n e (svals pre)).own x = o → o < 64 → W.cell? ⟨b, 16385 + o, none⟩ = some (.int .u64 ((bl1 v n e).ep o : Int)) := fun o _ h => hV.ep_ h
        have hw8 : IntKind.i8.wrap (n : Int) = n := by have := HN.out; rw [wrap_i8]; omega
        clear hO hV hB
        obtain ⟨o, ho⟩ : ∃ o, (bl3 v n e (svals pre)).own x = o := ⟨_, rfl⟩
        rw [ho] at HOw hle cO HTd
        dsimp only
        by_cases o64 : o = 64
        · subst o64
          have HY := hid (HTk.out (HTd.out.2 (.inl rfl)))
          clear hce ho hle HTk HKp HTd
          have hz : ownZ 64 = -1 := rfl
          gi_wp2_with (refine ⟨trivial, ?_⟩; gi_at_call 27; refine (CallsIn.inRound l (callsIn_wide.2 HOw.out)).mono ?_; rintro r w' ⟨rfl, hw'⟩; subst hw')
          refine region_round (S := fun _ => True) (by kernel_rfl) (by rintro ⟨_, _, h⟩; exact h) (by kernel_rfl) trivial (fun hHeld => ?_)
          refine wpAnyH_take (i := 0) (oi := { dst := some 42, op := Op.move (Operand.tmp 11), type := 3, pos := "view.go:176", after := #[], guard := none }) (v := .int .i64 (-1)) rfl (by kernel_rfl) (by kernel_rfl) (by kernel_rfl) (fun _ _ _ h => h) (Or.inl ⟨by rfl, fun wS hSw => ?_⟩) (by assumption) ?_
          · clear hHeld
            have hzz := hz
            clear hSw
            go_simp
          try simp only [Act.put, List.setIfInBounds_toArray, List.set_cons_zero, List.set_cons_succ]
          refine wpAnyH_take (i := 1) (oi := { dst := some 43, op := Op.binOp BinOp.eql 3 (Operand.tmp 42) (Operand.const (Value.int IntKind.i64 (-1))) 3, type := 4, pos := "view.go:176", after := #[{ on := 0, ground := Ground.data }], guard := none }) (v := .bool true) rfl (by kernel_rfl) (by kernel_rfl) (by kernel_rfl) (fun _ _ _ h => h) (Or.inl ⟨by rfl, fun wS hSw => ?_⟩) (by assumption) ?_
          · clear hHeld
            clear hSw
            go_simp
          try simp only [Act.put, List.setIfInBounds_toArray, List.set_cons_zero, List.set_cons_succ]
          refine wpAnyH_take (i := 2) (oi := { dst := some 44, op := Op.move (Operand.tmp 43), type := 4, pos := "view.go:176", after := #[{ on := 1, ground := Ground.data }], guard := none }) (v := .bool true) rfl (by kernel_rfl) (by kernel_rfl) (by kernel_rfl) (fun _ _ _ h => h) (Or.inl ⟨by rfl, fun wS hSw => ?_⟩) (by assumption) ?_
          · clear hHeld
            clear hSw
            go_simp
          try simp only [Act.put, List.setIfInBounds_toArray, List.set_cons_zero, List.set_cons_succ]
          refine wpAnyH_take (i := 3) (oi := { dst := some 45, op := Op.load 50 (Operand.tmp 4), type := 50, pos := "view.go:176", after := #[{ on := 2, ground := Ground.guard }], guard := some (2, false) }) (v := undef) rfl (by kernel_rfl) (by kernel_rfl) (by kernel_rfl) (fun _ _ _ h => h) (Or.inr ⟨by rfl, rfl⟩) (by assumption) ?_
          try simp only [Act.put, List.setIfInBounds_toArray, List.set_cons_zero, List.set_cons_succ]
          refine wpAnyH_take (i := 4) (oi := { dst := some 46, op := Op.move (Operand.tmp 11), type := 3, pos := "view.go:176", after := #[{ on := 2, ground := Ground.guard }], guard := some (2, false) }) (v := undef) rfl (by kernel_rfl) (by kernel_rfl) (by kernel_rfl) (fun _ _ _ h => h) (Or.inr ⟨by rfl, rfl⟩) (by assumption) ?_
          try simp only [Act.put, List.setIfInBounds_toArray, List.set_cons_zero, List.set_cons_succ]
          refine wpAnyH_take (i := 5) (oi := { dst := some 47, op := Op.nilCheck (Operand.tmp 45), type := 0, pos := "view.go:176", after := #[{ on := 3, ground := Ground.data }, { on := 2, ground := Ground.guard }], guard := some (2, false) }) (v := undef) rfl (by kernel_rfl) (by kernel_rfl) (by kernel_rfl) (fun _ _ _ h => h) (Or.inr ⟨by rfl, rfl⟩) (by assumption) ?_
          try simp only [Act.put, List.setIfInBounds_toArray, List.set_cons_zero, List.set_cons_succ]
          refine wpAnyH_take (i := 6) (oi := { dst := some 48, op := Op.fieldAddr 109 (Operand.tmp 47) 2, type := 0, pos := "view.go:176", after := #[{ on := 5, ground := Ground.data }, { on := 2, ground := Ground.guard }], guard := some (2, false) }) (v := undef) rfl (by kernel_rfl) (by kernel_rfl) (by kernel_rfl) (fun _ _ _ h => h) (Or.inr ⟨by rfl, rfl⟩) (by assumption) ?_
          try simp only [Act.put, List.setIfInBounds_toArray, List.set_cons_zero, List.set_cons_succ]
          refine wpAnyH_take (i := 7) (oi := { dst := some 49, op := Op.indexAddr 107 (Operand.tmp 48) (Operand.tmp 46), type := 0, pos := "view.go:176", after := #[{ on := 6, ground := Ground.data }, { on := 4, ground := Ground.data }, { on := 2, ground := Ground.guard }], guard := some (2, false) }) (v := undef) rfl (by kernel_rfl) (by kernel_rfl) (by kernel_rfl) (fun _ _ _ h => h) (Or.inr ⟨by rfl, rfl⟩) (by assumption) ?_
          try simp only [Act.put, List.setIfInBounds_toArray, List.set_cons_zero, List.set_cons_succ]
          refine wpAnyH_take (i := 8) (oi := { dst := some 50, op := Op.load 22 (Operand.tmp 49), type := 22, pos := "view.go:176", after := #[{ on := 7, ground := Ground.data }, { on := 2, ground := Ground.guard }], guard := some (2, false) }) (v := undef) rfl (by kernel_rfl) (by kernel_rfl) (by kernel_rfl) (fun _ _ _ h => h) (Or.inr ⟨by rfl, rfl⟩) (by assumption) ?_
          try simp only [Act.put, List.setIfInBounds_toArray, List.set_cons_zero, List.set_cons_succ]
          refine wpAnyH_take (i := 9) (oi := { dst := some 51, op := Op.load 22 (Operand.tmp 6), type := 22, pos := "view.go:176", after := #[{ on := 2, ground := Ground.guard }], guard := some (2, false) }) (v := undef) rfl (by kernel_rfl) (by kernel_rfl) (by kernel_rfl) (fun _ _ _ h => h) (Or.inr ⟨by rfl, rfl⟩) (by assumption) ?_
          try simp only [Act.put, List.setIfInBounds_toArray, List.set_cons_zero, List.set_cons_succ]
          refine wpAnyH_take (i := 10) (oi := { dst := some 52, op := Op.binOp BinOp.lss 22 (Operand.tmp 50) (Operand.tmp 51) 22, type := 4, pos := "view.go:176", after := #[{ on := 8, ground := Ground.data }, { on := 9, ground := Ground.data }, { on := 2, ground := Ground.guard }], guard := some (2, false) }) (v := undef) rfl (by kernel_rfl) (by kernel_rfl) (by kernel_rfl) (fun _ _ _ h => h) (Or.inr ⟨by rfl, rfl⟩) (by assumption) ?_
          try simp only [Act.put, List.setIfInBounds_toArray, List.set_cons_zero, List.set_cons_succ]
          refine wpAnyH_take (i := 11) (oi := { dst := some 53, op := Op.pick (Operand.tmp 44) (Operand.const (Value.bool true)) (Operand.tmp 52), type := 4, pos := "view.go:176", after := #[{ on := 2, ground := Ground.data }, { on := 10, ground := Ground.data }], guard := none }) (v := .bool true) rfl (by kernel_rfl) (by kernel_rfl) (by kernel_rfl) (fun _ _ _ h => h) (Or.inl ⟨by rfl, fun wS hSw => ?_⟩) (by assumption) ?_
          · clear hHeld
            clear hSw
            go_simp
          try simp only [Act.put, List.setIfInBounds_toArray, List.set_cons_zero, List.set_cons_succ]
          refine wpAnyH_done (by kernel_rfl) ?_ _
          clear hHeld
          gi_wp2
          refine region_round (S := fun W => W.cell? ⟨w.heap.size, 0, none⟩ = some (.pointer (some ⟨b, 0, none⟩)) ∧ W.cell? ⟨w.heap.size + 1, 0, none⟩ = some (.int .i64 (n : Int)) ∧ W.cell? ⟨w.heap.size + 2, 0, none⟩ = some (.int .u64 (e : Int))) (by kernel_rfl) (by rintro ⟨_, _, h⟩; exact h) (by kernel_rfl) ⟨c0, c1, c2⟩ (fun hHeld => ?_)
          refine wpAnyH_take (i := 0) (oi := { dst := some 54, op := Op.load 50 (Operand.tmp 4), type := 50, pos := "view.go:177", after := #[], guard := none }) (v := .pointer (some ⟨b, 0, none⟩)) rfl (by kernel_rfl) (by kernel_rfl) (by kernel_rfl) (fun _ _ _ h => h) (Or.inl ⟨by rfl, fun wS hSw => ?_⟩) (by assumption) ?_
          · clear hHeld
            obtain ⟨s0, s1, s2⟩ := hSw
            go_simp
          try simp only [Act.put, List.setIfInBounds_toArray, List.set_cons_zero, List.set_cons_succ]
          refine wpAnyH_take (i := 1) (oi := { dst := some 55, op := Op.move (Operand.tmp 10), type := 3, pos := "view.go:177", after := #[], guard := none }) (v := .int .i64 (x : Int)) rfl (by kernel_rfl) (by kernel_rfl) (by kernel_rfl) (fun _ _ _ h => h) (Or.inl ⟨by rfl, fun wS hSw => ?_⟩) (by assumption) ?_
          · clear hHeld
            clear hSw
            go_simp
          try simp only [Act.put, List.setIfInBounds_toArray, List.set_cons_zero, List.set_cons_succ]
          refine wpAnyH_take (i := 2) (oi := { dst := some 56, op := Op.load 3 (Operand.tmp 5), type := 3, pos := "view.go:177", after := #[], guard := none }) (v := .int .i64 (n : Int)) rfl (by kernel_rfl) (by kernel_rfl) (by kernel_rfl) (fun _ _ _ h => h) (Or.inl ⟨by rfl, fun wS hSw => ?_⟩) (by assumption) ?_
          · clear hHeld
            obtain ⟨s0, s1, s2⟩ := hSw
            go_simp
          try simp only [Act.put, List.setIfInBounds_toArray, List.set_cons_zero, List.set_cons_succ]
          refine wpAnyH_take (i := 3) (oi := { dst := some 57, op := Op.convert 3 105 (Operand.tmp 56), type := 105, pos := "view.go:177", after := #[{ on := 2, ground := Ground.data }], guard := none }) (v := .int .i8 (n : Int)) rfl (by kernel_rfl) (by kernel_rfl) (by kernel_rfl) (fun _ _ _ h => h) (Or.inl ⟨by rfl, fun wS hSw => ?_⟩) (by assumption) ?_
          · clear hHeld
            clear hSw
            go_simp
          try simp only [Act.put, List.setIfInBounds_toArray, List.set_cons_zero, List.set_cons_succ]
          refine wpAnyH_take (i := 4) (oi := { dst := some 58, op := Op.nilCheck (Operand.tmp 54), type := 0, pos := "view.go:177", after := #[{ on := 0, ground := Ground.data }], guard := none }) (v := .pointer (some ⟨b, 0, none⟩)) rfl (by kernel_rfl) (by kernel_rfl) (by kernel_rfl) (fun _ _ _ h => h) (Or.inl ⟨by rfl, fun wS hSw => ?_⟩) (by assumption) ?_
          · clear hHeld
            clear hSw
            go_simp
          try simp only [Act.put, List.setIfInBounds_toArray, List.set_cons_zero, List.set_cons_succ]
          refine wpAnyH_take (i := 5) (oi := { dst := some 59, op := Op.fieldAddr 109 (Operand.tmp 58) 1, type := 0, pos := "view.go:177", after := #[{ on := 4, ground := Ground.data }], guard := none }) (v := .pointer (some ⟨b, 1, none⟩)) rfl (by kernel_rfl) (by kernel_rfl) (by kernel_rfl) (fun _ _ _ h => h) (Or.inl ⟨by rfl, fun wS hSw => ?_⟩) (by assumption) ?_
          · clear hHeld
            clear hSw
            go_simp
          try simp only [Act.put, List.setIfInBounds_toArray, List.set_cons_zero, List.set_cons_succ]
          refine wpAnyH_take (i := 6) (oi := { dst := some 60, op := Op.indexAddr 106 (Operand.tmp 59) (Operand.tmp 55), type := 0, pos := "view.go:177", after := #[{ on := 5, ground := Ground.data }, { on := 1, ground := Ground.data }, { on := 0, ground := Ground.phase }, { on := 1, ground := Ground.phase }, { on := 2, ground := Ground.phase }, { on := 3, ground := Ground.phase }], guard := none }) (v := .pointer (some ⟨b, 1 + x, none⟩)) rfl (by kernel_rfl) (by kernel_rfl) (by kernel_rfl) (fun _ _ _ h => h) (Or.inl ⟨by rfl, fun wS hSw => ?_⟩) (by assumption) ?_
          · clear hHeld
            clear hSw
            go_simp
          try simp only [Act.put, List.setIfInBounds_toArray, List.set_cons_zero, List.set_cons_succ]
          refine wpAnyH_ready (rs := [7]) (by kernel_rfl) (by simp) ?_
          refine AllReadyH.cons (o := { dst := none, op := Op.store 105 (Operand.tmp 60) (Operand.tmp 57), type := 0, pos := "view.go:177", after := #[{ on := 6, ground := Ground.data }, { on := 3, ground := Ground.data }, { on := 0, ground := Ground.phase }, { on := 1, ground := Ground.phase }, { on := 2, ground := Ground.phase }, { on := 3, ground := Ground.phase }], guard := none }) rfl (fun K hK => ?_) AllReadyH.nil
          clear hHeld
          have dO : w'.drew.drew.cell? ⟨b, 1 + x, none⟩ = some (.int .i8 (ownZ 64)) := cO
          have dF : w'.drew.drew.frozen? ⟨b, 1 + x, none⟩ = false := fO
          go_simp
          refine hK.out _ _ ⟨(set_far (by have := HW.out; omega)).trans c0, (set_far (by have := HW.out; omega)).trans c1, (set_far (by have := HW.out; omega)).trans c2⟩ (fun hHeld => ?_)
          clear hK K hHeld
          refine wpAnyH_done (by kernel_rfl) ?_ _
          gi_wp2
          exact ⟨((KeepsOthers.drew _).trans (KeepsOthers.drew _)).trans (KeepsOthers.setCell _ _ _), kpb_only (Only.setCell ((Only.refl b w').drew.drew) (1 + x) _), by rw [svals_snoc]; exact HY.out.turn rfl, HBx.out.go (Only.setCell ((Only.refl b w').drew.drew) (1 + x) _) HW.out⟩
        · have o64b : o < 64 := by omega
          have cE := hce o ho o64b
          have hz : ownZ o = (o : Int) := by unfold ownZ; rw [if_pos o64b]
          have hzb : ((o : Int) == -1) = false := by rw [beq_eq_false_iff_ne]; omega
          have hzc : ¬ (o : Int) = -1 := by omega
          have hoz : (o : Int) < 64 := by omega
          rw [hz] at HOw
          rw [hz] at cO
          have HO64 := hid o64
          clear hce ho hle hz o64 o64b
          obtain ⟨eo, heo⟩ : ∃ x, (bl1 v n e).ep o = x := ⟨_, rfl⟩
          rw [heo] at cE HTd
          clear heo
          gi_wp2_with (refine ⟨trivial, ?_⟩; gi_at_call 27; refine (CallsIn.inRound l (callsIn_wide.2 HOw.out)).mono ?_; rintro r w' ⟨rfl, hw'⟩; subst hw')
          by_cases hlt : eo < e
          · have hlz : (eo : Int) < (e : Int) := by omega
            have HY := hid (HTk.out (HTd.out.2 (.inr hlt)))
            clear hlt HTk HKp HTd
            refine region_round (S := fun W => W.cell? ⟨w.heap.size, 0, none⟩ = some (.pointer (some ⟨b, 0, none⟩)) ∧ W.cell? ⟨w.heap.size + 1, 0, none⟩ = some (.int .i64 (n : Int)) ∧ W.cell? ⟨w.heap.size + 2, 0, none⟩ = some (.int .u64 (e : Int)) ∧ W.cell? ⟨b, 16385 + o, none⟩ = some (.int .u64 (eo : Int))) (by kernel_rfl) (by rintro ⟨_, _, h⟩; exact h) (by kernel_rfl) ⟨c0, c1, c2, cE⟩ (fun hHeld => ?_)
            refine wpAnyH_take (i := 0) (oi := { dst := some 42, op := Op.move (Operand.tmp 11), type := 3, pos := "view.go:176", after := #[], guard := none }) (v := .int .i64 (o : Int)) rfl (by kernel_rfl) (by kernel_rfl) (by kernel_rfl) (fun _ _ _ h => h) (Or.inl ⟨by rfl, fun wS hSw => ?_⟩) (by assumption) ?_
            · clear hHeld
              have hzz := hzb
              clear hSw
              go_simp
            try simp only [Act.put, List.setIfInBounds_toArray, List.set_cons_zero, List.set_cons_succ]
            refine wpAnyH_take (i := 1) (oi := { dst := some 43, op := Op.binOp BinOp.eql 3 (Operand.tmp 42) (Operand.const (Value.int IntKind.i64 (-1))) 3, type := 4, pos := "view.go:176", after := #[{ on := 0, ground := Ground.data }], guard := none }) (v := .bool false) rfl (by kernel_rfl) (by kernel_rfl) (by kernel_rfl) (fun _ _ _ h => h) (Or.inl ⟨by rfl, fun wS hSw => ?_⟩) (by assumption) ?_
            · clear hHeld
              have hzz := hzb
              clear hSw
              go_simp
            try simp only [Act.put, List.setIfInBounds_toArray, List.set_cons_zero, List.set_cons_succ]
            refine wpAnyH_take (i := 2) (oi := { dst := some 44, op := Op.move (Operand.tmp 43), type := 4, pos := "view.go:176", after := #[{ on := 1, ground := Ground.data }], guard := none }) (v := .bool false) rfl (by kernel_rfl) (by kernel_rfl) (by kernel_rfl) (fun _ _ _ h => h) (Or.inl ⟨by rfl, fun wS hSw => ?_⟩) (by assumption) ?_
            · clear hHeld
              clear hSw
              go_simp
            try simp only [Act.put, List.setIfInBounds_toArray, List.set_cons_zero, List.set_cons_succ]
            refine wpAnyH_take (i := 3) (oi := { dst := some 45, op := Op.load 50 (Operand.tmp 4), type := 50, pos := "view.go:176", after := #[{ on := 2, ground := Ground.guard }], guard := some (2, false) }) (v := .pointer (some ⟨b, 0, none⟩)) rfl (by kernel_rfl) (by kernel_rfl) (by kernel_rfl) (fun _ _ _ h => h) (Or.inl ⟨by rfl, fun wS hSw => ?_⟩) (by assumption) ?_
            · clear hHeld
              obtain ⟨s0, s1, s2, s3⟩ := hSw
              go_simp
            try simp only [Act.put, List.setIfInBounds_toArray, List.set_cons_zero, List.set_cons_succ]
            refine wpAnyH_take (i := 4) (oi := { dst := some 46, op := Op.move (Operand.tmp 11), type := 3, pos := "view.go:176", after := #[{ on := 2, ground := Ground.guard }], guard := some (2, false) }) (v := .int .i64 (o : Int)) rfl (by kernel_rfl) (by kernel_rfl) (by kernel_rfl) (fun _ _ _ h => h) (Or.inl ⟨by rfl, fun wS hSw => ?_⟩) (by assumption) ?_
            · clear hHeld
              clear hSw
              go_simp
            try simp only [Act.put, List.setIfInBounds_toArray, List.set_cons_zero, List.set_cons_succ]
            refine wpAnyH_take (i := 5) (oi := { dst := some 47, op := Op.nilCheck (Operand.tmp 45), type := 0, pos := "view.go:176", after := #[{ on := 3, ground := Ground.data }, { on := 2, ground := Ground.guard }], guard := some (2, false) }) (v := .pointer (some ⟨b, 0, none⟩)) rfl (by kernel_rfl) (by kernel_rfl) (by kernel_rfl) (fun _ _ _ h => h) (Or.inl ⟨by rfl, fun wS hSw => ?_⟩) (by assumption) ?_
            · clear hHeld
              clear hSw
              go_simp
            try simp only [Act.put, List.setIfInBounds_toArray, List.set_cons_zero, List.set_cons_succ]
            refine wpAnyH_take (i := 6) (oi := { dst := some 48, op := Op.fieldAddr 109 (Operand.tmp 47) 2, type := 0, pos := "view.go:176", after := #[{ on := 5, ground := Ground.data }, { on := 2, ground := Ground.guard }], guard := some (2, false) }) (v := .pointer (some ⟨b, 16385, none⟩)) rfl (by kernel_rfl) (by kernel_rfl) (by kernel_rfl) (fun _ _ _ h => h) (Or.inl ⟨by rfl, fun wS hSw => ?_⟩) (by assumption) ?_
            · clear hHeld
              clear hSw
              go_simp
            try simp only [Act.put, List.setIfInBounds_toArray, List.set_cons_zero, List.set_cons_succ]
            refine wpAnyH_take (i := 7) (oi := { dst := some 49, op := Op.indexAddr 107 (Operand.tmp 48) (Operand.tmp 46), type := 0, pos := "view.go:176", after := #[{ on := 6, ground := Ground.data }, { on := 4, ground := Ground.data }, { on := 2, ground := Ground.guard }], guard := some (2, false) }) (v := .pointer (some ⟨b, 16385 + o, none⟩)) rfl (by kernel_rfl) (by kernel_rfl) (by kernel_rfl) (fun _ _ _ h => h) (Or.inl ⟨by rfl, fun wS hSw => ?_⟩) (by assumption) ?_
            · clear hHeld
              clear hSw
              go_simp
            try simp only [Act.put, List.setIfInBounds_toArray, List.set_cons_zero, List.set_cons_succ]
            refine wpAnyH_take (i := 8) (oi := { dst := some 50, op := Op.load 22 (Operand.tmp 49), type := 22, pos := "view.go:176", after := #[{ on := 7, ground := Ground.data }, { on := 2, ground := Ground.guard }], guard := some (2, false) }) (v := .int .u64 (eo : Int)) rfl (by kernel_rfl) (by kernel_rfl) (by kernel_rfl) (fun _ _ _ h => h) (Or.inl ⟨by rfl, fun wS hSw => ?_⟩) (by assumption) ?_
            · clear hHeld
              obtain ⟨s0, s1, s2, s3⟩ := hSw
              go_simp
            try simp only [Act.put, List.setIfInBounds_toArray, List.set_cons_zero, List.set_cons_succ]
            refine wpAnyH_take (i := 9) (oi := { dst := some 51, op := Op.load 22 (Operand.tmp 6), type := 22, pos := "view.go:176", after := #[{ on := 2, ground := Ground.guard }], guard := some (2, false) }) (v := .int .u64 (e : Int)) rfl (by kernel_rfl) (by kernel_rfl) (by kernel_rfl) (fun _ _ _ h => h) (Or.inl ⟨by rfl, fun wS hSw => ?_⟩) (by assumption) ?_
            · clear hHeld
              obtain ⟨s0, s1, s2, s3⟩ := hSw
              go_simp
            try simp only [Act.put, List.setIfInBounds_toArray, List.set_cons_zero, List.set_cons_succ]
            refine wpAnyH_take (i := 10) (oi := { dst := some 52, op := Op.binOp BinOp.lss 22 (Operand.tmp 50) (Operand.tmp 51) 22, type := 4, pos := "view.go:176", after := #[{ on := 8, ground := Ground.data }, { on := 9, ground := Ground.data }, { on := 2, ground := Ground.guard }], guard := some (2, false) }) (v := .bool true) rfl (by kernel_rfl) (by kernel_rfl) (by kernel_rfl) (fun _ _ _ h => h) (Or.inl ⟨by rfl, fun wS hSw => ?_⟩) (by assumption) ?_
            · clear hHeld
              clear hSw
              go_simp
            try simp only [Act.put, List.setIfInBounds_toArray, List.set_cons_zero, List.set_cons_succ]
            refine wpAnyH_take (i := 11) (oi := { dst := some 53, op := Op.pick (Operand.tmp 44) (Operand.const (Value.bool true)) (Operand.tmp 52), type := 4, pos := "view.go:176", after := #[{ on := 2, ground := Ground.data }, { on := 10, ground := Ground.data }], guard := none }) (v := .bool true) rfl (by kernel_rfl) (by kernel_rfl) (by kernel_rfl) (fun _ _ _ h => h) (Or.inl ⟨by rfl, fun wS hSw => ?_⟩) (by assumption) ?_
            · clear hHeld
              clear hSw
              go_simp
            try simp only [Act.put, List.setIfInBounds_toArray, List.set_cons_zero, List.set_cons_succ]
            refine wpAnyH_done (by kernel_rfl) ?_ _
            clear hHeld
            gi_wp2
            refine region_round (S := fun W => W.cell? ⟨w.heap.size, 0, none⟩ = some (.pointer (some ⟨b, 0, none⟩)) ∧ W.cell? ⟨w.heap.size + 1, 0, none⟩ = some (.int .i64 (n : Int)) ∧ W.cell? ⟨w.heap.size + 2, 0, none⟩ = some (.int .u64 (e : Int))) (by kernel_rfl) (by rintro ⟨_, _, h⟩; exact h) (by kernel_rfl) ⟨c0, c1, c2⟩ (fun hHeld => ?_)
            refine wpAnyH_take (i := 0) (oi := { dst := some 54, op := Op.load 50 (Operand.tmp 4), type := 50, pos := "view.go:177", after := #[], guard := none }) (v := .pointer (some ⟨b, 0, none⟩)) rfl (by kernel_rfl) (by kernel_rfl) (by kernel_rfl) (fun _ _ _ h => h) (Or.inl ⟨by rfl, fun wS hSw => ?_⟩) (by assumption) ?_
            · clear hHeld
              obtain ⟨s0, s1, s2⟩ := hSw
              go_simp
            try simp only [Act.put, List.setIfInBounds_toArray, List.set_cons_zero, List.set_cons_succ]
            refine wpAnyH_take (i := 1) (oi := { dst := some 55, op := Op.move (Operand.tmp 10), type := 3, pos := "view.go:177", after := #[], guard := none }) (v := .int .i64 (x : Int)) rfl (by kernel_rfl) (by kernel_rfl) (by kernel_rfl) (fun _ _ _ h => h) (Or.inl ⟨by rfl, fun wS hSw => ?_⟩) (by assumption) ?_
            · clear hHeld
              clear hSw
              go_simp
            try simp only [Act.put, List.setIfInBounds_toArray, List.set_cons_zero, List.set_cons_succ]
            refine wpAnyH_take (i := 2) (oi := { dst := some 56, op := Op.load 3 (Operand.tmp 5), type := 3, pos := "view.go:177", after := #[], guard := none }) (v := .int .i64 (n : Int)) rfl (by kernel_rfl) (by kernel_rfl) (by kernel_rfl) (fun _ _ _ h => h) (Or.inl ⟨by rfl, fun wS hSw => ?_⟩) (by assumption) ?_
            · clear hHeld
              obtain ⟨s0, s1, s2⟩ := hSw
              go_simp
            try simp only [Act.put, List.setIfInBounds_toArray, List.set_cons_zero, List.set_cons_succ]
            refine wpAnyH_take (i := 3) (oi := { dst := some 57, op := Op.convert 3 105 (Operand.tmp 56), type := 105, pos := "view.go:177", after := #[{ on := 2, ground := Ground.data }], guard := none }) (v := .int .i8 (n : Int)) rfl (by kernel_rfl) (by kernel_rfl) (by kernel_rfl) (fun _ _ _ h => h) (Or.inl ⟨by rfl, fun wS hSw => ?_⟩) (by assumption) ?_
            · clear hHeld
              clear hSw
              go_simp
            try simp only [Act.put, List.setIfInBounds_toArray, List.set_cons_zero, List.set_cons_succ]
            refine wpAnyH_take (i := 4) (oi := { dst := some 58, op := Op.nilCheck (Operand.tmp 54), type := 0, pos := "view.go:177", after := #[{ on := 0, ground := Ground.data }], guard := none }) (v := .pointer (some ⟨b, 0, none⟩)) rfl (by kernel_rfl) (by kernel_rfl) (by kernel_rfl) (fun _ _ _ h => h) (Or.inl ⟨by rfl, fun wS hSw => ?_⟩) (by assumption) ?_
            · clear hHeld
              clear hSw
              go_simp
            try simp only [Act.put, List.setIfInBounds_toArray, List.set_cons_zero, List.set_cons_succ]
            refine wpAnyH_take (i := 5) (oi := { dst := some 59, op := Op.fieldAddr 109 (Operand.tmp 58) 1, type := 0, pos := "view.go:177", after := #[{ on := 4, ground := Ground.data }], guard := none }) (v := .pointer (some ⟨b, 1, none⟩)) rfl (by kernel_rfl) (by kernel_rfl) (by kernel_rfl) (fun _ _ _ h => h) (Or.inl ⟨by rfl, fun wS hSw => ?_⟩) (by assumption) ?_
            · clear hHeld
              clear hSw
              go_simp
            try simp only [Act.put, List.setIfInBounds_toArray, List.set_cons_zero, List.set_cons_succ]
            refine wpAnyH_take (i := 6) (oi := { dst := some 60, op := Op.indexAddr 106 (Operand.tmp 59) (Operand.tmp 55), type := 0, pos := "view.go:177", after := #[{ on := 5, ground := Ground.data }, { on := 1, ground := Ground.data }, { on := 0, ground := Ground.phase }, { on := 1, ground := Ground.phase }, { on := 2, ground := Ground.phase }, { on := 3, ground := Ground.phase }], guard := none }) (v := .pointer (some ⟨b, 1 + x, none⟩)) rfl (by kernel_rfl) (by kernel_rfl) (by kernel_rfl) (fun _ _ _ h => h) (Or.inl ⟨by rfl, fun wS hSw => ?_⟩) (by assumption) ?_
            · clear hHeld
              clear hSw
              go_simp
            try simp only [Act.put, List.setIfInBounds_toArray, List.set_cons_zero, List.set_cons_succ]
            refine wpAnyH_ready (rs := [7]) (by kernel_rfl) (by simp) ?_
            refine AllReadyH.cons (o := { dst := none, op := Op.store 105 (Operand.tmp 60) (Operand.tmp 57), type := 0, pos := "view.go:177", after := #[{ on := 6, ground := Ground.data }, { on := 3, ground := Ground.data }, { on := 0, ground := Ground.phase }, { on := 1, ground := Ground.phase }, { on := 2, ground := Ground.phase }, { on := 3, ground := Ground.phase }], guard := none }) rfl (fun K hK => ?_) AllReadyH.nil
            clear hHeld
            have dO : w'.drew.drew.cell? ⟨b, 1 + x, none⟩ = some (.int .i8 (o : Int)) := cO
            have dF : w'.drew.drew.frozen? ⟨b, 1 + x, none⟩ = false := fO
            go_simp
            refine hK.out _ _ ⟨(set_far (by have := HW.out; omega)).trans c0, (set_far (by have := HW.out; omega)).trans c1, (set_far (by have := HW.out; omega)).trans c2⟩ (fun hHeld => ?_)
            clear hK K hHeld
            refine wpAnyH_done (by kernel_rfl) ?_ _
            gi_wp2
            exact ⟨((KeepsOthers.drew _).trans (KeepsOthers.drew _)).trans (KeepsOthers.setCell _ _ _), kpb_only (Only.setCell ((Only.refl b w').drew.drew) (1 + x) _), by rw [svals_snoc]; exact HY.out.turn rfl, HBx.out.go (Only.setCell ((Only.refl b w').drew.drew) (1 + x) _) HW.out⟩
          · have hlz : ¬ (eo : Int) < (e : Int) := by omega
            have HY := hid (HKp.out (fun h => by rcases HTd.out.1 h with h | h; exact HO64.out h; exact hlt h))
            clear hlt HTk HKp HTd
            refine region_round (S := fun W => W.cell? ⟨w.heap.size, 0, none⟩ = some (.pointer (some ⟨b, 0, none⟩)) ∧ W.cell? ⟨w.heap.size + 1, 0, none⟩ = some (.int .i64 (n : Int)) ∧ W.cell? ⟨w.heap.size + 2, 0, none⟩ = some (.int .u64 (e : Int)) ∧ W.cell? ⟨b, 16385 + o, none⟩ = some (.int .u64 (eo : Int))) (by kernel_rfl) (by rintro ⟨_, _, h⟩; exact h) (by kernel_rfl) ⟨c0, c1, c2, cE⟩ (fun hHeld => ?_)
            refine wpAnyH_take (i := 0) (oi := { dst := some 42, op := Op.move (Operand.tmp 11), type := 3, pos := "view.go:176", after := #[], guard := none }) (v := .int .i64 (o : Int)) rfl (by kernel_rfl) (by kernel_rfl) (by kernel_rfl) (fun _ _ _ h => h) (Or.inl ⟨by rfl, fun wS hSw => ?_⟩) (by assumption) ?_
            · clear hHeld
              have hzz := hzb
              clear hSw
              go_simp
            try simp only [Act.put, List.setIfInBounds_toArray, List.set_cons_zero, List.set_cons_succ]
            refine wpAnyH_take (i := 1) (oi := { dst := some 43, op := Op.binOp BinOp.eql 3 (Operand.tmp 42) (Operand.const (Value.int IntKind.i64 (-1))) 3, type := 4, pos := "view.go:176", after := #[{ on := 0, ground := Ground.data }], guard := none }) (v := .bool false) rfl (by kernel_rfl) (by kernel_rfl) (by kernel_rfl) (fun _ _ _ h => h) (Or.inl ⟨by rfl, fun wS hSw => ?_⟩) (by assumption) ?_
            · clear hHeld
              have hzz := hzb
              clear hSw
              go_simp
            try simp only [Act.put, List.setIfInBounds_toArray, List.set_cons_zero, List.set_cons_succ]
            refine wpAnyH_take (i := 2) (oi := { dst := some 44, op := Op.move (Operand.tmp 43), type := 4, pos := "view.go:176", after := #[{ on := 1, ground := Ground.data }], guard := none }) (v := .bool false) rfl (by kernel_rfl) (by kernel_rfl) (by kernel_rfl) (fun _ _ _ h => h) (Or.inl ⟨by rfl, fun wS hSw => ?_⟩) (by assumption) ?_
            · clear hHeld
              clear hSw
              go_simp
            try simp only [Act.put, List.setIfInBounds_toArray, List.set_cons_zero, List.set_cons_succ]
            refine wpAnyH_take (i := 3) (oi := { dst := some 45, op := Op.load 50 (Operand.tmp 4), type := 50, pos := "view.go:176", after := #[{ on := 2, ground := Ground.guard }], guard := some (2, false) }) (v := .pointer (some ⟨b, 0, none⟩)) rfl (by kernel_rfl) (by kernel_rfl) (by kernel_rfl) (fun _ _ _ h => h) (Or.inl ⟨by rfl, fun wS hSw => ?_⟩) (by assumption) ?_
            · clear hHeld
              obtain ⟨s0, s1, s2, s3⟩ := hSw
              go_simp
            try simp only [Act.put, List.setIfInBounds_toArray, List.set_cons_zero, List.set_cons_succ]
            refine wpAnyH_take (i := 4) (oi := { dst := some 46, op := Op.move (Operand.tmp 11), type := 3, pos := "view.go:176", after := #[{ on := 2, ground := Ground.guard }], guard := some (2, false) }) (v := .int .i64 (o : Int)) rfl (by kernel_rfl) (by kernel_rfl) (by kernel_rfl) (fun _ _ _ h => h) (Or.inl ⟨by rfl, fun wS hSw => ?_⟩) (by assumption) ?_
            · clear hHeld
              clear hSw
              go_simp
            try simp only [Act.put, List.setIfInBounds_toArray, List.set_cons_zero, List.set_cons_succ]
            refine wpAnyH_take (i := 5) (oi := { dst := some 47, op := Op.nilCheck (Operand.tmp 45), type := 0, pos := "view.go:176", after := #[{ on := 3, ground := Ground.data }, { on := 2, ground := Ground.guard }], guard := some (2, false) }) (v := .pointer (some ⟨b, 0, none⟩)) rfl (by kernel_rfl) (by kernel_rfl) (by kernel_rfl) (fun _ _ _ h => h) (Or.inl ⟨by rfl, fun wS hSw => ?_⟩) (by assumption) ?_
            · clear hHeld
              clear hSw
              go_simp
            try simp only [Act.put, List.setIfInBounds_toArray, List.set_cons_zero, List.set_cons_succ]
            refine wpAnyH_take (i := 6) (oi := { dst := some 48, op := Op.fieldAddr 109 (Operand.tmp 47) 2, type := 0, pos := "view.go:176", after := #[{ on := 5, ground := Ground.data }, { on := 2, ground := Ground.guard }], guard := some (2, false) }) (v := .pointer (some ⟨b, 16385, none⟩)) rfl (by kernel_rfl) (by kernel_rfl) (by kernel_rfl) (fun _ _ _ h => h) (Or.inl ⟨by rfl, fun wS hSw => ?_⟩) (by assumption) ?_
            · clear hHeld
              clear hSw
              go_simp
            try simp only [Act.put, List.setIfInBounds_toArray, List.set_cons_zero, List.set_cons_succ]
            refine wpAnyH_take (i := 7) (oi := { dst := some 49, op := Op.indexAddr 107 (Operand.tmp 48) (Operand.tmp 46), type := 0, pos := "view.go:176", after := #[{ on := 6, ground := Ground.data }, { on := 4, ground := Ground.data }, { on := 2, ground := Ground.guard }], guard := some (2, false) }) (v := .pointer (some ⟨b, 16385 + o, none⟩)) rfl (by kernel_rfl) (by kernel_rfl) (by kernel_rfl) (fun _ _ _ h => h) (Or.inl ⟨by rfl, fun wS hSw => ?_⟩) (by assumption) ?_
            · clear hHeld
              clear hSw
              go_simp
            try simp only [Act.put, List.setIfInBounds_toArray, List.set_cons_zero, List.set_cons_succ]
            refine wpAnyH_take (i := 8) (oi := { dst := some 50, op := Op.load 22 (Operand.tmp 49), type := 22, pos := "view.go:176", after := #[{ on := 7, ground := Ground.data }, { on := 2, ground := Ground.guard }], guard := some (2, false) }) (v := .int .u64 (eo : Int)) rfl (by kernel_rfl) (by kernel_rfl) (by kernel_rfl) (fun _ _ _ h => h) (Or.inl ⟨by rfl, fun wS hSw => ?_⟩) (by assumption) ?_
            · clear hHeld
              obtain ⟨s0, s1, s2, s3⟩ := hSw
              go_simp
            try simp only [Act.put, List.setIfInBounds_toArray, List.set_cons_zero, List.set_cons_succ]
            refine wpAnyH_take (i := 9) (oi := { dst := some 51, op := Op.load 22 (Operand.tmp 6), type := 22, pos := "view.go:176", after := #[{ on := 2, ground := Ground.guard }], guard := some (2, false) }) (v := .int .u64 (e : Int)) rfl (by kernel_rfl) (by kernel_rfl) (by kernel_rfl) (fun _ _ _ h => h) (Or.inl ⟨by rfl, fun wS hSw => ?_⟩) (by assumption) ?_
            · clear hHeld
              obtain ⟨s0, s1, s2, s3⟩ := hSw
              go_simp
            try simp only [Act.put, List.setIfInBounds_toArray, List.set_cons_zero, List.set_cons_succ]
            refine wpAnyH_take (i := 10) (oi := { dst := some 52, op := Op.binOp BinOp.lss 22 (Operand.tmp 50) (Operand.tmp 51) 22, type := 4, pos := "view.go:176", after := #[{ on := 8, ground := Ground.data }, { on := 9, ground := Ground.data }, { on := 2, ground := Ground.guard }], guard := some (2, false) }) (v := .bool false) rfl (by kernel_rfl) (by kernel_rfl) (by kernel_rfl) (fun _ _ _ h => h) (Or.inl ⟨by rfl, fun wS hSw => ?_⟩) (by assumption) ?_
            · clear hHeld
              clear hSw
              go_simp
            try simp only [Act.put, List.setIfInBounds_toArray, List.set_cons_zero, List.set_cons_succ]
            refine wpAnyH_take (i := 11) (oi := { dst := some 53, op := Op.pick (Operand.tmp 44) (Operand.const (Value.bool true)) (Operand.tmp 52), type := 4, pos := "view.go:176", after := #[{ on := 2, ground := Ground.data }, { on := 10, ground := Ground.data }], guard := none }) (v := .bool false) rfl (by kernel_rfl) (by kernel_rfl) (by kernel_rfl) (fun _ _ _ h => h) (Or.inl ⟨by rfl, fun wS hSw => ?_⟩) (by assumption) ?_
            · clear hHeld
              clear hSw
              go_simp
            try simp only [Act.put, List.setIfInBounds_toArray, List.set_cons_zero, List.set_cons_succ]
            refine wpAnyH_done (by kernel_rfl) ?_ _
            clear hHeld
            gi_wp2
            exact ⟨KeepsOthers.drew _, kpb_only (Only.refl b w').drew, by rw [svals_snoc]; exact HY.out.turn rfl, HBx.out.go (Only.refl b w').drew HW.out⟩
      case done =>
        rintro D ys W hD hS ⟨hV, hB⟩ hK
        gi_wp2
        refine ⟨by simp, .inl ⟨_, _, rfl, run_takeDeferred hK, ?_⟩⟩
        have hput := grownBy_putObj' W D (.deferred none)
        have hrow : ∀ r, some D = some r → W0.heap.size ≤ r ∧ ∃ o : Obj, W.heap[r]? = some o ∧ o.isCells = false := fun r e => by cases e; exact ⟨hD, _, hK, rfl⟩
        have hV2 := hV.kept hput (fun r e => (hrow r e).2)
        have hO2 := only_kept hB.only HWs.out hput hrow
        rw [show svals ys = slots S from hS] at hV2
        exact ⟨_, results_none rfl _ _ _, ⟨_, rfl⟩, hV2, hO2⟩
      case stop =>
        rintro D c pre W _ _ h _
        exact h.elim

end Go.Proofs.YtbfllifgmlkndaaGreatDoor
