/- VwRef4, VwRef5. -/
import Derived.Test.YtbfllifgmlkndaaGreatDoorM18
import Derived.Deep.MidRow
import Derived.Test.YtbfllifgmlkndaaGreatDoorM13
namespace Go.Proofs.YtbfllifgmlkndaaGreatDoor
open Go.RowKit
open Slot

theorem kp_is (v : Vw) (n e t : Nat) : ∀ o, kpK v.cl v.ep n e o t = decide (v.own t < o ∧ v.own t ≠ n ∧ e ≤ v.ep (v.own t))
  | 0 => by rw [decide_eq_false (fun c => Nat.not_lt_zero _ c.1)]; rfl
  | o + 1 => by
    show (kpK v.cl v.ep n e o t || (decide (o ≠ n) && decide (e ≤ v.ep o) && (v.own t == o))) = _
    rw [kp_is v n e t o]
    by_cases h : v.own t = o
    · rw [h, decide_eq_false (fun c => Nat.lt_irrefl _ c.1), Bool.false_or, beq_self_eq_true, Bool.and_true, ← Bool.decide_and]
      refine decide_eq_decide.2 ⟨fun c => ⟨by omega, c⟩, fun c => c.2⟩
    · rw [beq_eq_false_iff_ne.2 h, Bool.and_false, Bool.or_false]
      exact decide_eq_decide.2 ⟨fun c => ⟨by omega, c.2⟩, fun c => ⟨by omega, c.2⟩⟩
theorem won_is (v : Vw) (n : Nat) (p : Pk) (t : Nat) (h : v.own t ≤ 64) : wonK v.cl v.ep n p t = (p.cl t && decide (v.own t = 64 ∨ v.own t = n ∨ v.ep (v.own t) < p.epoch)) := by
  unfold wonK
  rw [kp_is]
  congr 1
  rw [← decide_not]
  exact decide_eq_decide.2 ⟨fun c => by omega, fun c => by omega⟩
/-- what the words are behind a claim -/
theorem claim_nd {w : World} {g : Nat} {v : Vw} {n : Nat} {p : Pk} (ho : ∀ t, v.own t ≤ 64) (hn : n < 64) (h : Nd w g (fun m => if m = n then p.epoch else v.ep m) (clK v.cl n (wonK v.cl v.ep n p))) : Nd w g (claimV v n p).ep (claimV v n p).cl := by
  refine h.congr (fun _ _ => rfl) (fun m i hm _ => word_congr fun k _ => ?_)
  generalize 64 * i + k = t
  have h64 := ho t
  show ((if p.cl t then (if v.own t = 64 ∨ v.own t = n ∨ v.ep (v.own t) < p.epoch then n else v.own t) else (if v.own t = n then 64 else v.own t)) == m) = (if m = n then wonK v.cl v.ep n p t else (v.own t == m) && !wonK v.cl v.ep n p t)
  rw [won_is v n p t h64]
  cases hc : p.cl t
  · simp only [Bool.false_eq_true, if_false, Bool.false_and, Bool.not_false, Bool.and_true]
    by_cases e : v.own t = n
    · rw [if_pos e]
      by_cases e2 : m = n
      · rw [if_pos e2, beq_eq_false_iff_ne]; omega
      · rw [if_neg e2, beq_eq_false_iff_ne.2 (show (64 : Nat) ≠ m by omega), beq_eq_false_iff_ne.2 (show v.own t ≠ m by omega)]
    · rw [if_neg e]
      by_cases e2 : m = n
      · rw [if_pos e2, beq_eq_false_iff_ne]; omega
      · rw [if_neg e2]
  · simp only [if_true, Bool.true_and]
    by_cases c : v.own t = 64 ∨ v.own t = n ∨ v.ep (v.own t) < p.epoch
    · rw [if_pos c, decide_eq_true c]
      by_cases e2 : m = n
      · rw [if_pos e2, e2, beq_self_eq_true]
      · rw [if_neg e2, beq_eq_false_iff_ne.2 (show n ≠ m by omega)]; simp
    · rw [if_neg c, decide_eq_false c]
      by_cases e2 : m = n
      · rw [if_pos e2, beq_eq_false_iff_ne]; omega
      · rw [if_neg e2]; simp
theorem own_nd {w : World} {g : Nat} {v : Vw} {s n : Nat} (h : Nd w g v.ep (ownK v.cl s n)) : Nd w g (ownV v s n).ep (ownV v s n).cl := by
  refine h.congr (fun _ _ => rfl) (fun m i _ _ => word_congr fun k _ => ?_)
  generalize 64 * i + k = t
  show ((if t = s then n else v.own t) == m) = (if t = s then m == n else (v.own t == m))
  by_cases e : t = s
  · rw [if_pos e, if_pos e, Bool.eq_iff_iff]; simp; omega
  · rw [if_neg e, if_neg e]
theorem beat_step (v : Vw) (p : Pk) (s : Nat) (h : s < top) : beatV v p (top - s) s = if worse v p s = true then some (v.own s) else beatV v p (top - (s + 1)) (s + 1) := by
  rw [show top - s = (top - (s + 1)) + 1 by omega]
  rfl
/-- what beaten tells -/
def beatI (v : Vw) (p : Pk) : Int := match beatV v p top 0 with
  | some o => (o : Int)
  | none => -1
theorem beat_some {v : Vw} {p : Pk} {o : Nat} (h : beatV v p top 0 = some o) : beatI v p = o := by unfold beatI; rw [h]
theorem beat_none {v : Vw} {p : Pk} (h : beatV v p top 0 = none) : beatI v p = -1 := by unfold beatI; rw [h]
set_option maxHeartbeats 8000000 in
set_option maxRecDepth 100000 in
/-- the document's beaten -/
theorem rbeaten_any (self g cap cur : Nat) (v : Vw) (p : Pk) (f : Nat) (w : World) (ho : ∀ t, v.own t ≤ 64) (hf : p.frm = f) (hN : Nd w g v.ep v.cl) : Calls Tryz.prog 78 #[.agg (rvc self g cap cur), .agg (pkCells p)] w fun e w' => e = .returned (.int .i64 (beatI v p)) ∧ Below w.heap.size w w' := by
  have hg := hN.lt
  have e1 : (w.alloc (.cells (rvc self g cap cur) 34)).heap.size = w.heap.size + 1 := by simp
  have HV0 : Hid (RVb ((w.alloc (.cells (rvc self g cap cur) 34)).alloc (.cells (pkCells p) 53)) w.heap.size self g cap cur) := heap_alloc2_old w _ _
  have HP0 : Hid (PBox ((w.alloc (.cells (rvc self g cap cur) 34)).alloc (.cells (pkCells p) 53)) (w.heap.size + 1) p) := heap_alloc2_new w _ _
  have HW0 : Hid (Below w.heap.size w ((w.alloc (.cells (rvc self g cap cur) 34)).alloc (.cells (pkCells p) 53))) := (below_alloc w _).alloc (by simp) _
  have HNw := hid hN
  have HG := hid hg
  have HOw : Hid (∀ (s : Nat) (W : World), s < 16384 → Nd W g v.ep v.cl → Calls Tryz.prog 95 #[.agg (rvc self g cap cur), .int .i64 (s : Int)] W fun e w' => e = .returned (.int .i64 (ownI v s)) ∧ Below W.heap.size W w') := fun s W hs h => rowner_in self g cap cur v s W hs h
  have HOI : Hid (∀ s : Nat, s < 16384 → ownI v s = if v.own s < 64 then (v.own s : Int) else -1) := fun s hs => by
    show _ = _
    unfold ownI slotB
    rw [decide_eq_true (show (0 : Int) ≤ (s : Int) ∧ (s : Int) < 16384 by omega), Int.toNat_natCast]
    simp
  have HWd : Hid (∀ s : Nat, worse v p s = (p.cl s && decide (v.own s ≠ 64) && decide (v.own s ≠ f) && decide (p.epoch < v.ep (v.own s)))) := fun s => by show worse v p s = _; unfold worse; rw [hf]; rfl
  have HBt : Hid (∀ s, s < 16384 → beatV v p (top - s) s = if worse v p s = true then some (v.own s) else beatV v p (top - (s + 1)) (s + 1)) := fun s h => beat_step v p s h
  have HR1 : Hid (∀ o, beatV v p top 0 = some o → beatI v p = o) := fun o h => beat_some h
  have HR2 : Hid (beatV v p top 0 = none → beatI v p = -1) := fun h => beat_none h
  have HO64 := hid ho
  have HB0 : Hid (beatV v p top 0 = beatV v p (top - 0) 0) := rfl
  have HEnd : Hid (∀ k, beatV v p (top - 16384) k = none) := fun k => rfl
  generalize beatI v p = R at *
  generalize hRC : rvc self g cap cur = RC at *
  generalize pkCells p = PC at *
  clear hN e1 ho
  go_enter Tryz.func78, Tryz.ntmps78
  go_upto_region 1 with fail
  generalize (w.alloc (.cells RC 34)).alloc (.cells PC 53) = w2 at *
  go_wp2_with fail
  go_loopw [5, 6] (fun i _ wr => ∃ s : Nat, s ≤ 16384 ∧ i = .int .i64 s ∧ Hid (beatV v p top 0 = beatV v p (top - s) s) ∧ Hid (RVb wr w.heap.size self g cap cur) ∧ Hid (PBox wr (w.heap.size + 1) p) ∧ Hid (Below w.heap.size w wr)) (fun i _ _ => 16384 - (intOf i).toNat)
  case atStart => exact ⟨0, by omega, rfl, HB0.out, HV0.out, HP0.out, HW0.out⟩
  case round =>
    obtain ⟨s, hs, rfl, HBe, HV, HP, HW⟩ := hrel
    by_cases hlt : s < 16384
    · have hsz : (s : Int) < 16384 := by omega
      obtain ⟨q, hq⟩ : ∃ q : Nat, q = s / 64 := ⟨_, rfl⟩
      obtain ⟨r, hr⟩ : ∃ r : Nat, r = s % 64 := ⟨_, rfl⟩
      have q1 : (s : Int) / 64 = (q : Int) := by omega
      have r1 : (s : Int) % 64 = (r : Int) := by omega
      have q256 : (q : Int) < 256 := by omega
      have cw := HP.out.word q (by omega)
      have hbit := bit_one (word p.cl q) r (word_lt _ _)
      rw [show (word p.cl q).testBit r = p.cl s by rw [hq, hr]; exact word_bit p.cl s] at hbit
      have HBs := hid (HBt.out s hlt)
      rw [HWd.out s] at HBs
      generalize (word p.cl q : Int) = x at *
      clear hq hr
      cases hcl : p.cl s with
      | false =>
        rw [hcl] at hbit HBs
        simp only [Bool.false_eq_true, if_false, Bool.false_and] at hbit HBs
        have HBe2 : Hid (beatV v p top 0 = beatV v p (top - (s + 1)) (s + 1)) := HBe.out.trans HBs.out
        go_wp2
        go_roundw
        case rel => exact ⟨s + 1, by omega, by go_num, HBe2.out, HV.out, HP.out, HW.out⟩
        case measure => simp [intOf]; omega
      | true =>
        rw [hcl] at hbit HBs
        simp only [if_true, Bool.true_and] at hbit HBs
        go_wp2_with (refine wpList_load_row rfl 34 _ rfl w.heap.size rfl 34 _ (0, 0) _ HV.out Tryz.underlying34 rfl (infoRV rfl) (Hid.out ?_))
        refine hid ?_
        go_wp2_with fail
        refine (HOw.out s _ hlt (HNw.out.below HW.out HG.out)).mono ?_; rintro e w3 ⟨rfl, hb⟩
        have HV3 := hid (HV.out.below hb HV.out.lt)
        have HP3 := hid (HP.out.below hb HP.out.lt)
        have HW3 := hid (HW.out.trans (hb.mono HW.out.size))
        have HN3 := hid (HNw.out.below HW3.out HG.out)
        obtain ⟨c0, c1, c2⟩ := rv_cells HV3.out
        obtain ⟨p0, p1, p2, p3, p4⟩ := HP3.out.cells
        rw [hf] at p1
        rw [HOI.out s hlt]
        clear hb
        by_cases h64 : v.own s < 64
        · rw [if_pos h64]
          have ce := HN3.out.ep h64
          have hoz : (v.own s : Int) < 64 := by omega
          rw [decide_eq_true (show v.own s ≠ 64 by omega)] at HBs
          by_cases hfe : v.own s = f
          · rw [decide_eq_false (fun c => c hfe)] at HBs
            simp only [Bool.true_and, Bool.false_and, Bool.false_eq_true, if_false] at HBs
            have HBe2 : Hid (beatV v p top 0 = beatV v p (top - (s + 1)) (s + 1)) := HBe.out.trans HBs.out
            have hf1 : ((v.own s : Int) != (f : Int)) = false := by rw [hfe]; simp
            generalize v.own s = o at *
            go_wp2
            go_region
            go_wp2
            go_roundw
            case rel => exact ⟨s + 1, by omega, by go_num, HBe2.out, HV3.out, HP3.out, HW3.out.drew⟩
            case measure => simp [intOf]; omega
          · rw [decide_eq_true hfe] at HBs
            have hf1 : ((v.own s : Int) != (f : Int)) = true := by
              rw [bne, beq_eq_false_iff_ne.2 (show (v.own s : Int) ≠ (f : Int) by omega)]; rfl
            by_cases hep : p.epoch < v.ep (v.own s)
            · rw [decide_eq_true hep] at HBs
              simp only [Bool.true_and, if_true] at HBs
              have HR : Hid (R = (v.own s : Int)) := HR1.out _ (HBe.out.trans HBs.out)
              have hez : (p.epoch : Int) < (v.ep (v.own s) : Int) := by omega
              generalize (v.ep (v.own s) : Int) = eo at *
              generalize v.own s = o at *
              go_wp2
              go_region
              go_wp2
              go_ret
              exact ⟨by rw [HR.out]; rfl, HW3.out.drew⟩
            · rw [decide_eq_false hep] at HBs
              simp only [Bool.and_false, Bool.false_eq_true, if_false] at HBs
              have HBe2 : Hid (beatV v p top 0 = beatV v p (top - (s + 1)) (s + 1)) := HBe.out.trans HBs.out
              have hez : ¬ (p.epoch : Int) < (v.ep (v.own s) : Int) := by omega
              generalize (v.ep (v.own s) : Int) = eo at *
              generalize v.own s = o at *
              go_wp2
              go_region
              go_wp2
              go_roundw
              case rel => exact ⟨s + 1, by omega, by go_num, HBe2.out, HV3.out, HP3.out, HW3.out.drew⟩
              case measure => simp [intOf]; omega
        · rw [if_neg h64]
          rw [decide_eq_false (fun c => c (by have := HO64.out s; omega))] at HBs
          simp only [Bool.false_and, Bool.false_eq_true, if_false] at HBs
          have HBe2 : Hid (beatV v p top 0 = beatV v p (top - (s + 1)) (s + 1)) := HBe.out.trans HBs.out
          go_wp2
          go_region
          go_wp2
          go_roundw
          case rel => exact ⟨s + 1, by omega, by go_num, HBe2.out, HV3.out, HP3.out, HW3.out.drew⟩
          case measure => simp [intOf]; omega
    · obtain rfl : s = 16384 := by omega
      have HR : Hid (R = -1) := HR2.out (HBe.out.trans (HEnd.out _))
      go_wp2
      go_ret
      exact ⟨by rw [HR.out]; rfl, HW.out⟩

end Go.Proofs.YtbfllifgmlkndaaGreatDoor

namespace Go.Proofs.YtbfllifgmlkndaaGreatDoor
open Go.RowKit
open Slot

/-- a node's cells -/
def ndCells (e : Nat) (S : Nat → Bool) : Array Value := #[.int .u64 (e : Int)] ++ cellsOf S
theorem ndCells_size (e : Nat) (S : Nat → Bool) : (ndCells e S).size = 257 := by simp [ndCells, cellsOf_size]
theorem ndCells_one (e : Nat) (S : Nat → Bool) : (ndCells e S).all (·.oneCell') = true := by
  unfold ndCells
  rw [Array.all_append, oneCells, Bool.and_true]
  simp [Value.oneCell']
theorem ndCells_get (e : Nat) (S : Nat → Bool) (i : Nat) (hi : i < 256) : (ndCells e S)[1 + i]? = some (.int .u64 (word S i : Int)) := by
  unfold ndCells
  rw [Array.getElem?_append_right (by simp)]
  simpa using cellsOf_get S i hi
theorem ndCells_zero (e : Nat) (S : Nat → Bool) : (ndCells e S)[0]? = some (.int .u64 (e : Int)) := by
  unfold ndCells
  rw [Array.getElem?_append_left (by simp)]
  rfl
theorem Nd.range {w : World} {g : Nat} {E : Nat → Nat} {K : Nat → Nat → Bool} (h : Nd w g E K) {n : Nat} (hn : n < 64) : w.rangeAt g (n * 257) (ndCells (E n) (K n)).toList := fun j v hv => by
  rw [Array.getElem?_toList] at hv
  have hj : j < 257 := by
    have := (Array.getElem?_eq_some_iff.1 hv).1
    rwa [ndCells_size] at this
  by_cases e : j = 0
  · subst e
    rw [ndCells_zero] at hv
    rw [Nat.add_zero, h.ep hn]; exact hv
  · rw [show j = 1 + (j - 1) by omega, ndCells_get _ _ _ (by omega)] at hv
    rw [show n * 257 + j = n * 257 + 1 + (j - 1) by omega, h.wd hn (by omega)]; exact hv
theorem infoNode {C : Array Value} (h : C.size = 257) : (Tryz.prog.info? 79).map (·.size) = some C.size := by rw [h]; kernel_rfl
theorem zeroNd : Tryz.zeroCells79 = ndCells 0 (fun _ => false) := by
  have : Tryz.zeroCells79 = #[.int .u64 0] ++ Array.replicate 256 (.int .u64 0) := by kernel_rfl
  rw [this, ← zeroRep, zeroBits]
  rfl
theorem nd_block {w : World} {b e : Nat} {S : Nat → Bool} (h : w.heap[b]? = some (.cells (ndCells e S) 79 (0, 0))) : w.cell? ⟨b, 0, none⟩ = some (.int .u64 (e : Int)) ∧ w.rangeAt b 1 (cellsOf S).toList := by
  refine ⟨?_, fun j v hv => ?_⟩
  · rw [cell_of_row w b _ _ _ _ h]; exact ndCells_zero e S
  · rw [Array.getElem?_toList] at hv
    have hj : j < 256 := by
      have := (Array.getElem?_eq_some_iff.1 hv).1
      rwa [cellsOf_size] at this
    rw [cellsOf_get S j hj] at hv
    rw [cell_of_row w b _ _ _ _ h, ndCells_get e S j hj]; exact hv
theorem built_four (k f e c : Int) : Instr.fill (fun i => placesP[i]?) (#[.int .i64 0, .int .i64 0, .int .i64 0, .int .u64 0, .int .u64 0] ++ Array.replicate 256 (.int .u64 0)) [(0, .int .i64 k), (1, .int .i64 f), (3, .int .u64 e), (4, .int .u64 c)] = some (#[.int .i64 k, .int .i64 f, .int .i64 0, .int .u64 e, .int .u64 c] ++ Array.replicate 256 (.int .u64 0)) := by kernel_rfl
theorem build_tell (k f : Int) (e c : Nat) (S : Nat → Bool) (w : World) : (Instr.build 53 #[(0, .int .i64 k), (1, .int .i64 f), (3, .int .u64 (e : Int)), (4, .int .u64 (c : Int)), (5, .agg (cellsOf S))]).run Tryz.prog w = .ok (.agg (pkCells ⟨k, f, 0, e, c, S⟩)) w := by
  refine run_build w _ _ _ ?_
  rw [built_any]
  have := fill_app (fun i => placesP[i]?) [(0, .int .i64 k), (1, .int .i64 f), (3, .int .u64 (e : Int)), (4, .int .u64 (c : Int))] [(5, .agg (cellsOf S))] (#[.int .i64 0, .int .i64 0, .int .i64 0, .int .u64 0, .int .u64 0] ++ Array.replicate 256 (.int .u64 0))
  rw [List.cons_append, List.cons_append, List.cons_append, List.cons_append, List.nil_append] at this
  refine this.trans ?_
  rw [built_four, Option.bind_some]
  have h5 : placesP[5]? = some (5, 256) := rfl
  simp only [Instr.fill, h5, Value.cells, cellsOf_size, Array.size_append, Array.size_replicate]
  rw [if_neg (by simp)]
  refine congrArg some ?_
  exact fill_row #[.int .i64 k, .int .i64 f, .int .i64 0, .int .u64 (e : Int), .int .u64 (c : Int)] (Array.replicate 256 (.int .u64 0)) (cellsOf S) (by rw [cellsOf_size]; simp)
set_option maxRecDepth 100000 in
theorem tell_form (k f : Int) (e c : Nat) (S : Nat → Bool) : Array.foldl (fun cs (x : Value × Nat) => cs.setIfInBounds (5 + x.snd) x.fst)
          ((((Tryz.zeroCells53.setIfInBounds 0 (Value.int IntKind.i64 k)).setIfInBounds 1 (Value.int IntKind.i64 f)).setIfInBounds 3 (Value.int IntKind.u64 e)).setIfInBounds 4 (Value.int IntKind.u64 c))
          (cellsOf S).zipIdx 0 (cellsOf S).size = pkCells ⟨k, f, 0, e, c, S⟩ := by
  have hs : (cellsOf S).size = 256 := cellsOf_size S
  have hz := zsize
  have a := fun w : World => build_tell k f e c S w
  simp only [go_sem, hs] at a
  simp [hz] at a
  exact a
theorem infoBl {S : Nat → Bool} : (Tryz.prog.info? 24).map (·.size) = some (cellsOf S).toList.length := infoCl S
set_option maxHeartbeats 4000000 in
set_option maxRecDepth 100000 in
theorem tell_core (self g cap cur e0 : Nat) (kind : Int) (CX NC ZN PC Z0 : Array Value) (w : World) (hs : self < 64) (hg : g < w.heap.size) (hr : w.rangeAt g (self * 257) NC.toList) (hc : CX.size = 256) (hn : NC.size = 257) (on : NC.all (·.oneCell') = true) (hzn : Tryz.zeroCells79 = ZN) (zn : ZN.size = 257)
    (hz : Tryz.zeroCells53 = Z0) (z0 : Z0.size = 261) (pc : PC.size = 261) (op : PC.all (·.oneCell') = true)
    (hbl : ∀ (W : World) (b : Nat), W.heap[b]? = some (.cells NC 79 (0, 0)) → W.cell? ⟨b, 0, none⟩ = some (.int .u64 (e0 : Int)) ∧ W.rangeAt b 1 CX.toList)
    (hbu : Array.foldl (fun cs (x : Value × Nat) => cs.setIfInBounds (5 + x.snd) x.fst) ((((Z0.setIfInBounds 0 (Value.int IntKind.i64 kind)).setIfInBounds 1 (Value.int IntKind.i64 self)).setIfInBounds 3 (Value.int IntKind.u64 e0)).setIfInBounds 4 (Value.int IntKind.u64 cur)) CX.zipIdx 0 256 = PC) :
    Calls Tryz.prog 54 #[.agg (rvc self g cap cur), .int .i64 kind] w fun e w' => e = .returned (.agg PC) ∧ Below w.heap.size w w' := by
  have HV0 : Hid (RVb ((w.alloc (.cells (rvc self g cap cur) 34)).alloc (.cells Z0 53)) w.heap.size self g cap cur) := heap_alloc2_old w _ _
  have HP0 : Hid (((w.alloc (.cells (rvc self g cap cur) 34)).alloc (.cells Z0 53)).heap[w.heap.size + 1]? = some (.cells Z0 53 (0, 0))) := heap_alloc2_new w _ _
  have HW0 : Hid (Below w.heap.size w ((w.alloc (.cells (rvc self g cap cur) 34)).alloc (.cells Z0 53))) := (below_alloc w _).alloc (by simp) _
  have HSZ : Hid (((w.alloc (.cells (rvc self g cap cur) 34)).alloc (.cells Z0 53)).heap.size = w.heap.size + 2) := by show _ = _; simp
  have HR0 : Hid (((w.alloc (.cells (rvc self g cap cur) 34)).alloc (.cells Z0 53)).rangeAt g (self * 257) NC.toList) := fun j v hv => by
    rw [HW0.out.cell (p := ⟨g, self * 257 + j, none⟩) hg]; exact hr j v hv
  have HBL := hid hbl
  have hze : ¬ Z0 = #[] := fun e => by rw [e] at z0; cases z0
  have hsz : (self : Int) < 64 := by omega
  have iN : (Tryz.prog.info? 79).map (·.size) = some NC.toList.length := by rw [Array.length_toList]; exact infoNode hn
  have iC : (Tryz.prog.info? 24).map (·.size) = some CX.toList.length := by rw [Array.length_toList, hc]; kernel_rfl
  have iP : (Tryz.prog.info? 53).map (·.size) = some PC.size := by rw [pc]; kernel_rfl
  have ON := hid on
  have OP := hid op
  obtain ⟨c0, c1, c2⟩ := rv_cells HV0.out
  clear hbl hr on op
  generalize rvc self g cap cur = RC at *
  go_enter Tryz.func54, Tryz.ntmps54
  go_upto_region 1 with fail
  generalize (w.alloc (.cells RC 34)).alloc (.cells Z0 53) = w2 at *
  go_wp2_with (refine wpList_load_mid rfl 79 _ rfl g (self * 257) rfl _ _ HR0.out Tryz.underlying79 rfl iN (Hid.out ?_))
  refine hid ?_
  rw [Array.toArray_toList]
  have HN3 : Hid ((w2.alloc (.cells ZN 79)).heap[w2.heap.size]? = some (.cells ZN 79 (0, 0))) := heap_alloc_new w2 _
  go_wp2_with (refine wpList_store_row rfl 79 _ _ rfl w2.heap.size NC rfl rfl 79 _ HN3.out (infoNode hn) (zn.trans hn.symm) ON.out (Hid.out ?_))
  have hb3 := below_alloc w2 (.cells ZN 79)
  have HN4 : Hid (((w2.alloc (.cells ZN 79)).setRow w2.heap.size NC).heap[w2.heap.size]? = some (.cells NC 79 (0, 0))) := setRow_heap _ _ _ _ _ _ HN3.out
  have HW4 : Hid (Below w.heap.size w ((w2.alloc (.cells ZN 79)).setRow w2.heap.size NC)) := below_setRow (HW0.out.alloc HW0.out.size _) HW0.out.size _
  have HV4 : Hid (RVb ((w2.alloc (.cells ZN 79)).setRow w2.heap.size NC) w.heap.size self g cap cur) := (setRow_other _ _ _ _ (by have := HSZ.out; omega)).trans (HV0.out.below hb3 HV0.out.lt)
  have HP4 : Hid (((w2.alloc (.cells ZN 79)).setRow w2.heap.size NC).heap[w.heap.size + 1]? = some (.cells Z0 53 (0, 0))) := (setRow_other _ _ _ _ (by have := HSZ.out; omega)).trans ((hb3.block _ (by have := HSZ.out; omega)).trans HP0.out)
  generalize (w2.alloc (.cells ZN 79)).setRow w2.heap.size NC = w4 at HN4 HW4 HV4 HP4 ⊢
  generalize w2.heap.size = b at HN4 ⊢
  refine hid ?_
  clear c0 c1 c2 HV0 HP0 HW0 HR0 HN3 hb3 HSZ hzn
  obtain ⟨c0, c1, c2⟩ := rv_cells HV4.out
  obtain ⟨d0, d1⟩ := HBL.out _ _ HN4.out
  have HD := hid d1
  clear d1 HBL
  go_wp2_with (refine wpList_load_mid rfl 24 _ rfl b 1 rfl _ _ HD.out Tryz.underlying24 rfl iC (Hid.out ?_))
  refine hid ?_
  rw [Array.toArray_toList]
  go_wp2_with (refine wpList_store_row rfl 53 _ _ rfl (w.heap.size + 1) PC rfl rfl 53 _ HP4.out iP (z0.trans pc.symm) OP.out (Hid.out ?_))
  refine hid ?_
  go_wp2_with fail
  refine bodyPost_ret (v := .agg PC) ?_ rfl ?_
  · exact results_cell_row rfl _ _ (w.heap.size + 1) 53 PC (0, 0) _ rfl (setRow_heap _ _ _ _ _ _ HP4.out) Tryz.underlying53 rfl iP
  · exact ⟨rfl, below_setRow HW4.out (by omega) _⟩
/-- the document's Tell -/
theorem rtell_any (self g cap cur : Nat) (kind : Int) (E : Nat → Nat) (K : Nat → Nat → Bool) (w : World) (hs : self < 64) (hN : Nd w g E K) : Calls Tryz.prog 54 #[.agg (rvc self g cap cur), .int .i64 kind] w fun e w' => e = .returned (.agg (pkCells ⟨kind, self, 0, E self, cur, K self⟩)) ∧ Below w.heap.size w w' := by
  have hbu := tell_form kind (self : Int) (E self) cur (K self)
  rw [zeroPk, cellsOf_size] at hbu
  exact tell_core self g cap cur (E self) kind (cellsOf (K self)) (ndCells (E self) (K self)) (ndCells 0 fun _ => false) (pkCells ⟨kind, self, 0, E self, cur, K self⟩) (pkCells zeroP) w hs hN.lt (hN.range hs) (cellsOf_size _) (ndCells_size _ _) (ndCells_one _ _) zeroNd (ndCells_size _ _) zeroPk (pkCells_size _) (pkCells_size _) (onePk _) (fun W b h => nd_block h) hbu

end Go.Proofs.YtbfllifgmlkndaaGreatDoor
