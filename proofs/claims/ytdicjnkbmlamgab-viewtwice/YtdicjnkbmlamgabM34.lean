/- LawV1. -/
import Derived.Test.YtdicjnkbmlamgabM33
namespace Go.Proofs.Ytdicjnkbmlamgab
open Go.RowKit
open Slot

def mineS : Nat → Bool := fun n => decide (n < 10)
def theirsS : Nat → Bool := fun n => n == 5
def P5 : Pk := ⟨1, 2, 0, 4, 5, theirsS⟩
def v5 : Vw := newV 1 mineS 3
theorem word_low {T : Nat → Bool} (hT : ∀ n, 64 ≤ n → T n = false) : ∀ j, j < 256 → word T j = if j = 0 then word T 0 else word (fun _ => false) j := fun j _ => by
  by_cases e : j = 0
  · rw [if_pos e, e]
  · rw [if_neg e]
    unfold word
    exact num_congr fun k hk => hT _ (by omega)
theorem wmine : word mineS 0 = 1023 := by decide
theorem wtheirs : word theirsS 0 = 32 := by decide
theorem cells_low {T : Nat → Bool} {x : Nat} (h0 : word T 0 = x) (hT : ∀ n, 64 ≤ n → T n = false) : (cellsOf fun _ => false).setIfInBounds 0 (.int .u64 (x : Int)) = cellsOf T := by
  refine Array.ext_getElem? fun i => ?_
  by_cases hi : i < 256
  · rw [cellsOf_get T i hi, word_low hT i hi]
    by_cases e : i = 0
    · subst e
      rw [if_pos rfl, h0]
      exact Array.getElem?_setIfInBounds_self_of_lt (by rw [cellsOf_size]; decide)
    · rw [if_neg e, Array.getElem?_setIfInBounds_ne (by omega), cellsOf_get _ i hi]
  · rw [Array.getElem?_eq_none (by rw [Array.size_setIfInBounds, cellsOf_size]; omega), Array.getElem?_eq_none (by rw [cellsOf_size]; omega)]
theorem seen5 : seen v5 P5 = true := by rfl
theorem take25 : take2 v5 P5 = claimV (take1 v5 P5) 2 P5 := by
  unfold take2
  exact if_pos (by decide)
theorem take5 : takeV v5 P5 = claimV (take1 v5 P5) 2 P5 := by
  unfold takeV
  rw [if_pos seen5]
  unfold take3
  rw [if_neg (by rw [take25]; decide), take25]
theorem own55 : (takeV v5 P5).own 5 = 2 := by rw [take5]; rfl
theorem answ5 : answV v5 P5 = [tellV (takeV v5 P5) 2] := by
  unfold answV
  rw [if_pos ⟨seen5, by decide⟩]
  unfold outV
  rw [if_pos (.inl rfl), beat_no]
  · rfl
  intro s hs
  have h5 : s = 5 := by
    have := (slots_mem.1 hs).2
    exact beq_iff_eq.1 this
  subst h5
  unfold wb
  rw [own55]
  rfl
theorem own5a : ownI (takeV v5 P5) 5 = 2 := by rw [take5]; rfl
theorem own5b : ownI (takeV v5 P5) 6 = 1 := by rw [take5]; rfl
theorem cur5 : (takeV v5 P5).cur = 5 := by rw [take5]; rfl
theorem ok5 : v5.Ok 1000000 := (new_ok mineS (by decide) (by decide)).mono (by decide)
theorem wp_build5 {o : Oper} {a : Act} {w : World} {K : Act → World → Prop} {Q : Exit → Act → World → Prop} (x : Operand)
    (ho : o.op = .build 29 #[(0, .const (.int .i64 1)), (1, .const (.int .i64 2)), (3, .const (.int .u64 4)), (4, .const (.int .u64 5)), (5, x)]) (C PC : Array Value)
    (hb : ∀ w : World, (Instr.build 29 #[(0, .int .i64 1), (1, .int .i64 2), (3, .int .u64 4), (4, .int .u64 5), (5, .agg C)]).run Try.prog w = .ok (.agg PC) w) (hx : a.eval x = .agg C)
    (h : K (a.put o.dst (.agg PC)) w) : o.wp Try.prog a w K Q := by
  unfold Oper.wp execOp
  simp only [ho, List.map_toArray, List.map_cons, List.map_nil, hx, Sem.run_bind]
  have e : (Instr.build 29 (List.toArray [(0, a.eval (.const (.int .i64 1))), (1, a.eval (.const (.int .i64 2))), (3, a.eval (.const (.int .u64 4))), (4, a.eval (.const (.int .u64 5))), (5, .agg C)])).run Try.prog w = .ok (.agg PC) w := hb w
  rw [e]
  simp only [Result.andThen_ok]
  exact h
theorem wpList_build5 {ops : Array Oper} {rest : List Oper} {o : Oper} {a : Act} {w : World} {Q : Exit → Act → World → Prop} (hg : o.guard = none) (x : Operand)
    (ho : o.op = .build 29 #[(0, .const (.int .i64 1)), (1, .const (.int .i64 2)), (3, .const (.int .u64 4)), (4, .const (.int .u64 5)), (5, x)]) (C PC : Array Value)
    (hb : ∀ w : World, (Instr.build 29 #[(0, .int .i64 1), (1, .int .i64 2), (3, .int .u64 4), (4, .int .u64 5), (5, .agg C)]).run Try.prog w = .ok (.agg PC) w) (hx : a.eval x = .agg C)
    (h : wpList Try.prog ops Q rest (a.put o.dst (.agg PC)) w) : wpList Try.prog ops Q (o :: rest) a w :=
  wpList_plain hg fun _ hK => wp_build5 x ho C PC hb hx (hK _ _ h)
set_option maxHeartbeats 2000000 in
set_option maxRecDepth 100000 in
theorem alive_core (MC TC PC : Array Value) (v u : Vw) (w : World) (hm : MC.size = 256) (ht : TC.size = 256)
    (hmc : (cellsOf fun _ => false).setIfInBounds 0 (.int .u64 1023) = MC) (htc : (cellsOf fun _ => false).setIfInBounds 0 (.int .u64 32) = TC)
    (hb : ∀ w : World, (Instr.build 29 #[(0, .int .i64 1), (1, .int .i64 2), (3, .int .u64 4), (4, .int .u64 5), (5, .agg TC)]).run Try.prog w = .ok (.agg PC) w)
    (hNw : ∀ W, Calls Try.prog 13 #[.int .i64 1, .agg MC, .int .u64 3] W fun r w' => ∃ b, r = .returned (.tuple #[.pointer (some ⟨b, 0, none⟩), .int .i64 0]) ∧ VB w' b v ∧ W.heap.size ≤ b ∧ Below W.heap.size W w')
    (hTk : ∀ b W, VB W b v → Calls Try.prog 7 #[.pointer (some ⟨b, 0, none⟩), .agg PC] W fun e w' => ∃ g o c, e = .returned (.slice (some ⟨g, o, none⟩) 1 c) ∧ w'.cell? ⟨g, o, none⟩ = some (.int .i64 2) ∧ VB w' b u ∧ Only b W w')
    (h5 : ∀ b W, VB W b u → Calls Try.prog 19 #[.pointer (some ⟨b, 0, none⟩), .int .i64 5] W fun e w' => e = .returned (.int .i64 2) ∧ w' = W)
    (h6 : ∀ b W, VB W b u → Calls Try.prog 19 #[.pointer (some ⟨b, 0, none⟩), .int .i64 6] W fun e w' => e = .returned (.int .i64 1) ∧ w' = W)
    (hc : ∀ b W, VB W b u → Calls Try.prog 12 #[.pointer (some ⟨b, 0, none⟩)] W fun e w' => e = .returned (.int .u64 5) ∧ w' = W) :
    Calls Try.prog 6 #[] w fun e w' => e = .returned (.bool true) ∧ Below w.heap.size w w' := by
  have hz := zeroBits
  have HM0 : Hid (((w.alloc (.cells MC 24)).alloc (.cells TC 24)).heap[w.heap.size]? = some (.cells MC 24 (0, 0))) := heap_alloc2_old w _ _
  have HT0 : Hid (((w.alloc (.cells MC 24)).alloc (.cells TC 24)).heap[w.heap.size + 1]? = some (.cells TC 24 (0, 0))) := heap_alloc2_new w _ _
  have HW0 : Hid (Below w.heap.size w ((w.alloc (.cells MC 24)).alloc (.cells TC 24))) := (below_alloc w _).alloc (by simp) _
  have iM : (Try.prog.info? 24).map (·.size) = some MC.size := by rw [hm]; kernel_rfl
  have iT : (Try.prog.info? 24).map (·.size) = some TC.size := by rw [ht]; kernel_rfl
  have HNw := hid hNw
  have HTk := hid hTk
  have HB5 := hid hb
  have H5 := hid h5
  have H6 := hid h6
  have HC := hid hc
  clear hb hNw hTk h5 h6 hc hm ht
  go_enter Try.func6, Try.ntmps6
  go_upto_region 3 with fail
  clear hmc htc hz
  generalize ((w.alloc (.cells MC 24)).alloc (.cells TC 24)) = w2 at *
  go_wp2_with (refine wpList_load_row rfl 24 _ rfl w.heap.size rfl 24 _ (0, 0) _ HM0.out Try.underlying24 rfl iM (Hid.out ?_))
  refine hid ?_
  go_wp2_with fail
  refine (HNw.out _).mono ?_; rintro e w3 ⟨b, rfl, hv, hb1, hb2⟩
  have HV3 := hid hv
  have HW3 := hid (HW0.out.trans (hb2.mono HW0.out.size))
  have HT3 : Hid (w3.heap[w.heap.size + 1]? = some (.cells TC 24 (0, 0))) := (hb2.block _ (Array.getElem?_eq_some_iff.1 HT0.out).1).trans HT0.out
  have HB : Hid (w.heap.size ≤ b) := by have := HW0.out.size; show _ ≤ _; omega
  clear hv hb1 hb2
  go_wp2_with (first | (refine wpList_load_row rfl 24 _ rfl (w.heap.size + 1) rfl 24 _ (0, 0) _ HT3.out Try.underlying24 rfl iT ?_) | (refine wpList_build5 rfl _ rfl TC PC HB5.out rfl ?_))
  refine (HTk.out _ _ HV3.out).mono ?_; rintro e w4 ⟨g, o, c, rfl, k0, hv, hon⟩
  have H54 := hid (H5.out _ _ hv)
  have H64 := hid (H6.out _ _ hv)
  have HC4 := hid (HC.out _ _ hv)
  have HW4 := hid (HW3.out.trans (hon.below HB.out HW3.out.size))
  clear hv hon
  go_wp2_with fail
  refine H54.out.mono ?_; rintro e w5 ⟨rfl, rfl⟩
  go_wp2_with fail
  refine H64.out.mono ?_; rintro e w5 ⟨rfl, rfl⟩
  go_wp2_with fail
  refine HC4.out.mono ?_; rintro e w5 ⟨rfl, rfl⟩
  go_wp2_with fail
  go_ret
  exact ⟨rfl, HW4.out⟩
theorem alive_any (w : World) : Calls Try.prog 6 #[] w fun e w' => e = .returned (.bool true) ∧ Below w.heap.size w w' := by
  refine alive_core (cellsOf mineS) (cellsOf theirsS) (pkCells P5) v5 (takeV v5 P5) w (cellsOf_size _) (cellsOf_size _)
    (cells_low (x := 1023) wmine (fun n h => decide_eq_false (by omega))) (cells_low (x := 32) wtheirs (fun n h => by show (n == 5) = false; rw [beq_eq_false_iff_ne]; omega))
    (fun w => build_tell 1 2 4 5 theirsS w) (fun W => pnew_yes 1 3 mineS W (by decide) (by decide)) (fun b W h => ?_) (fun b W h => ?_) (fun b W h => ?_) (fun b W h => ?_)
  · refine (ptake_any b v5 P5 W h ok5).mono ?_
    rintro e w4 ⟨a, rfl, ho, hv, hon⟩
    rw [answ5] at ho
    obtain ⟨x, c, rfl, -, hpk⟩ := ho.shape
    obtain ⟨g, o, rfl, -, hr⟩ := hpk (by simp)
    refine ⟨g, o, c, rfl, ?_, hv, hon⟩
    have h0 : (pkCells (tellV (takeV v5 P5) 2)).toList[0]? = some (.int .i64 2) := by
      rw [Array.getElem?_toList]
      unfold pkCells
      rw [Array.getElem?_append_left (by simp)]
      rfl
    have := hr 0 (by simp) 0 (.int .i64 2) h0
    simpa using this
  · have := owner_any b (takeV v5 P5) 5 W h
    rwa [own5a] at this
  · have := owner_any b (takeV v5 P5) 6 W h
    rwa [own5b] at this
  · have := current_any b (takeV v5 P5) W h
    rwa [cur5] at this

end Go.Proofs.Ytdicjnkbmlamgab
