/- The call that asks whether the slots live answers true. -/
import Derived.Test.YtlgghndpagoalaaDoorPrint
namespace Go.Proofs.YtlgghndpagoalaaDoor
open Go.RowKit
open Slot

/-- a whole array is read, under a guard that holds or under none -/
theorem wpList_load_want {P : Program} {ops : Array Oper} {rest : List Oper} {o : Oper} {a : Act} {w : World} {Q : Exit → Act → World → Prop} (hw : Region.wanted o (yielded ops a.tmps) = true) (ty : TypeId) (x : Operand) (ho : o.op = .load ty x)
    (g : Nat) (hx : a.eval x = .pointer (some ⟨g, 0, none⟩)) (t : TypeId) (cs : Array Value) (fr : Nat × Nat) (d : TypeDesc) (hg : w.heap[g]? = some (.cells cs t fr))
    (hu : P.underlying ty = some d) (hd : (match d with | .struct _ | .array _ _ => true | _ => false) = true) (hi : (P.info? ty).map (·.size) = some cs.size)
    (h : wpList P ops Q rest (a.put o.dst (.agg cs)) w) : wpList P ops Q (o :: rest) a w := by
  refine wpList_step fun K hK => ?_
  rw [if_pos hw]
  exact wp_load_row ty x ho g hx t cs fr d hg hu hd hi (hK _ _ h)

def someL : List (Nat × Nat) := [(3, 5), (9, 9)]
theorem someL_chain : Chain 0 someL := by unfold someL Chain Chain Chain top; simp
theorem someL_print : print someL = [51, 45, 53, 32, 57] := by
  simp [someL, print, piece, Lib.decDigits_one]
theorem someL_parse : parseVal [51, 45, 53, 32, 57] = .tuple #[.agg (cellsOf (ofList someL)), .int .i64 0] := by
  rw [← someL_print]
  exact parseVal_ok (parseAll_print someL_chain)
theorem count_none {f : Nat → Bool} {n : Nat} (h : ∀ k, k < n → f k = false) : count f n = 0 := by
  induction n with
  | zero => rfl
  | succ n ih => rw [count_succ, ih (fun k hk => h k (by omega)), h n (by omega)]; rfl
theorem someL_count : count (ofList someL) 16384 = 4 := by
  rw [show (16384 : Nat) = 10 + 16374 from rfl, count_add, count_none (n := 16374)]
  · decide
  · intro k _
    simp only [ofList, someL, List.any_cons, List.any_nil, Bool.or_false, Bool.or_eq_false_iff, decide_eq_false_iff_not]
    omega
theorem foo_slot : slotOf [123, 102, 111, 111, 125, 120] = 12182 := by decide +kernel

set_option maxHeartbeats 2000000 in
set_option maxRecDepth 100000 in
/-- alive -/
theorem alive_any (w : World) (hE : Env w) : Calls Tryd.prog 5 #[] w fun e w' => e = .returned (.bool true) ∧ Below w.heap.size w w' := by
  have hz := zeroBits
  have HP := hid (parse_any [51, 45, 53, 32, 57] w hE (by simp))
  rw [someL_parse] at HP
  have HE := hid hE
  clear hE
  go_enter Tryd.func5, Tryd.ntmps5
  go_wp2_with fail
  refine HP.out.mono ?_; rintro e w1 ⟨rfl, hb1⟩
  have HE1 := hid (HE.out.below hb1 HE.out.room)
  have HZ1 : Hid (Box (w1.alloc (.cells (cellsOf fun _ => false) 25)) w1.heap.size (fun _ => false)) := box_new w1 _
  have HW1 := hid hb1
  clear hb1
  go_wp2_with (refine wpList_store_row rfl 25 _ _ rfl w1.heap.size (cellsOf (ofList someL)) rfl rfl 25 _ HZ1.out (infoBits _) (sizes _ _) (oneCells _) (Hid.out ?_))
  have B2 : Hid (Box ((w1.alloc (.cells (cellsOf fun _ => false) 25)).setRow w1.heap.size (cellsOf (ofList someL))) w1.heap.size (ofList someL)) := box_size HZ1.out
  have W2 : Hid (Below w.heap.size w ((w1.alloc (.cells (cellsOf fun _ => false) 25)).setRow w1.heap.size (cellsOf (ofList someL)))) := below_setRow (HW1.out.alloc HW1.out.size _) HW1.out.size _
  generalize (w1.alloc (.cells (cellsOf fun _ => false) 25)).setRow w1.heap.size (cellsOf (ofList someL)) = w2 at B2 W2 ⊢
  have hb1 : w.heap.size ≤ w1.heap.size := HW1.out.size
  generalize w1.heap.size = b at B2 hb1 ⊢
  refine hid ?_
  -- Has 4
  go_wp2_with (refine wpList_load_want rfl 25 _ rfl b rfl 25 _ (0, 0) _ B2.out Tryd.underlying25 rfl (infoBits _) (Hid.out ?_))
  refine hid ?_
  go_wp2_with fail
  refine (has_any (ofList someL) 4 w2).mono ?_
  rw [show (decide ((0 : Int) ≤ 4 ∧ (4 : Int) < 16384) && ofList someL (4 : Int).toNat) = true by decide]
  rintro e w3 ⟨rfl, hb3⟩
  have B3 := hid (B2.out.below hb3 B2.out.lt)
  have W3 := hid (W2.out.trans (hb3.mono W2.out.size))
  clear hb3
  -- Has 6
  go_wp2_with (refine wpList_load_want rfl 25 _ rfl b rfl 25 _ (0, 0) _ B3.out Tryd.underlying25 rfl (infoBits _) (Hid.out ?_))
  refine hid ?_
  go_wp2_with fail
  refine (has_any (ofList someL) 6 w3).mono ?_
  rw [show (decide ((0 : Int) ≤ 6 ∧ (6 : Int) < 16384) && ofList someL (6 : Int).toNat) = false by decide]
  rintro e w4 ⟨rfl, hb4⟩
  have B4 := hid (B3.out.below hb4 B3.out.lt)
  have W4 := hid (W3.out.trans (hb4.mono W3.out.size))
  have E4 := hid (HE.out.below W4.out HE.out.room)
  clear hb4
  -- Of
  go_wp2_with fail
  refine (of_any [123, 102, 111, 111, 125, 120] w4 E4.out.tab E4.out.room (by simp)).mono ?_
  rw [foo_slot]
  rintro e w5 ⟨rfl, hb5⟩
  have B5 := hid (B4.out.below hb5 B4.out.lt)
  have W5 := hid (W4.out.trans (hb5.mono W4.out.size))
  have E5 := hid (HE.out.below W5.out HE.out.room)
  clear hb5
  -- Print
  go_wp2_with (refine wpList_load_want rfl 25 _ rfl b rfl 25 _ (0, 0) _ B5.out Tryd.underlying25 rfl (infoBits _) (Hid.out ?_))
  refine hid ?_
  go_wp2_with fail
  refine (print_any (ofList someL) w5 E5.out).mono ?_
  rintro e w6 ⟨⟨l, hl, rfl⟩, hb6⟩
  obtain rfl : l = someL := hl.unique (chain_runs someL_chain)
  rw [someL_print]
  have B6 := hid (B5.out.below hb6 B5.out.lt)
  have W6 := hid (W5.out.trans (hb6.mono W5.out.size))
  clear hb6 hl
  -- Count
  go_wp2_with (refine wpList_load_want rfl 25 _ rfl b rfl 25 _ (0, 0) _ B6.out Tryd.underlying25 rfl (infoBits _) (Hid.out ?_))
  refine hid ?_
  go_wp2_with fail
  refine (count_any (ofList someL) w6).mono ?_
  rw [someL_count]
  rintro e w7 ⟨rfl, hb7⟩
  have W7 := hid (W6.out.trans (hb7.mono W6.out.size))
  clear hb7
  go_wp2
  go_ret
  exact ⟨rfl, W7.out⟩

end Go.Proofs.YtlgghndpagoalaaDoor
