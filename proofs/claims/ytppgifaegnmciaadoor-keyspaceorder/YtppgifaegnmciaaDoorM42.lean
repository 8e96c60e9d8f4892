/- KAlive, KBegun. -/
import Derived.Test.YtppgifaegnmciaaDoorM41
namespace Go.Proofs.YtppgifaegnmciaaDoor
open Go.RowKit

def ab : Vl := ⟨1, [97, 98], [], [], 0, 0⟩
theorem rt_ab : RtV ab := rtv1 (by decide)
theorem right_ab : rightB ab = true := rightB_iff.2 rt_ab
theorem dump_ab : dumpS ab = dumpV ab := if_pos right_ab
theorem body_ab : bodyV ab = [1, 0, 2, 97, 98] := rfl
theorem came_ab : Came ab := ⟨by decide, by decide, by decide, (fun x hx => by cases hx), (fun x hx => by cases hx), (fun x hx => by cases hx), by decide, by decide, by decide⟩
abbrev fooN : Nm := [102, 111, 111]
def fooE : E8 := ⟨fooN, ab, none, 0, none, 0, 5⟩
theorem tk_foo : tkE (pr8 fooE) = 26 := by
  unfold tkE
  show 16 + 3 + (dumpS ab).length = 26
  rw [dump_ab, dump_len, body_ab]
  rfl
theorem put_foo : putEL [] 100 0 (pr8 fooE) = 0 := by
  unfold putEL
  rw [if_neg (show ¬ argBadP (pr8 fooE) 0 by unfold argBadP; decide), if_neg (show ¬ rightB (pr8 fooE).2.1 = false by rw [show (pr8 fooE).2.1 = ab from rfl, right_ab]; decide), if_neg]
  rw [tk_foo]
  rintro (⟨_, h⟩ | ⟨h, _⟩)
  · exact absurd h (by decide)
  · exact absurd h (by unfold memL; decide)
theorem putl_foo : putLL [] 100 0 (pr8 fooE) = [pr8 fooE] := by
  unfold putLL
  rw [if_pos put_foo]
  rfl
theorem get_foo : getL fooN [pr8 fooE] = some (pr8 fooE) := by
  unfold getL
  rw [List.find?_cons_of_pos]
  rfl
theorem mem_foo : memL [pr8 fooE] = 26 := by
  unfold memL
  rw [List.map_cons, List.map_nil, tk_foo]
  rfl
theorem slotOf_foo : slotOf fooN = 12182 := by kernel_rfl
theorem slot_foo : (slotL 12182 [pr8 fooE]).length = 1 := by
  unfold slotL
  rw [List.filter_cons_of_pos]
  · rfl
  · show ((slotOf fooN : Int) == 12182) = true
    rw [slotOf_foo]; rfl
theorem arg_foo : Arg8 fooE := ⟨by decide, came_ab, by decide, by decide, by unfold In64; decide⟩
theorem lies_foo (P : Nat → Prop) (w : World) : Lies P w fooE := ⟨⟨Rp.nilRow w, Rd.nilRow w⟩, fun h => absurd rfl h, fun h => absurd rfl h⟩
set_option maxHeartbeats 4000000 in
set_option maxRecDepth 100000 in
theorem alive_any {B : Nat} (hB0 : 0 < B) (w : World) (hT : Tab w) (hB : B ≤ w.heap.size) : Calls Tryd.prog 6 #[] w fun e w' => e = .returned (.bool true) ∧ Hid (Below w.heap.size w w') := by
  have HN := hid (knew_any hB0 w hT hB 100)
  have HP := hid (fun (W : World) b O A (h : Sp B W b O A [] 100 0) => sp_put h fooE arg_foo (lies_foo _ W))
  rw [put_foo, putl_foo] at HP
  have HG := hid (fun (W : World) b O A (h : Sp B W b O A [pr8 fooE] 100 0) => sp_get h fooN (by decide))
  rw [get_foo] at HG
  have HM := hid (fun (W : World) b O A (h : Sp B W b O A [pr8 fooE] 100 0) => sp_mem h)
  rw [mem_foo] at HM
  have HC := hid (fun (W : World) b O A (h : Sp B W b O A [pr8 fooE] 100 0) => sp_count h 12182 (by unfold In64; decide))
  rw [slot_foo] at HC
  clear hT
  go_enter Tryd.func6, Tryd.ntmps6
  go_wp2_with fail
  refine HN.out.mono ?_; rintro e w1 ⟨b, rfl, hh⟩
  obtain ⟨O1, A1, hS1, hA1, hb1⟩ := hh.out
  have HS1 := hid hS1
  have HA1 := hid hA1
  have HW1 := hid hb1
  clear hh hS1 hA1 hb1
  go_wp2_with fail
  refine (HP.out _ b O1 A1 HS1.out).mono ?_; rintro e w2 ⟨rfl, hh⟩
  obtain ⟨O2, A2, hS2, hst⟩ := hh.out
  have HS2 := hid hS2
  have HW2 : Hid (Below w.heap.size w w2) := ⟨hst.keep.os.trans HW1.out.os, hst.keep.tape.trans HW1.out.tape, hst.keep.output.trans HW1.out.output, Nat.le_trans HW1.out.size hst.keep.size, fun k hk => (hst.keep.block k (Nat.lt_of_lt_of_le hk HW1.out.size) (fun ho => by have := HA1.out k (HS1.out.sub k ho); omega)).trans (HW1.out.block k hk)⟩
  clear hh hS2 hst
  go_wp2_with fail
  refine (HG.out _ b O2 A2 HS2.out).mono ?_; rintro e w3 ⟨y, rfl, hh⟩
  obtain ⟨hy, -, hb3⟩ := hh.out
  obtain ⟨yk, ym, ypp, ypc, yip, yic, ye⟩ := y
  simp only [Option.getD_some, pr8, fooE, Prod.mk.injEq] at hy
  obtain ⟨rfl, rfl, rfl⟩ := hy
  have HS3 := hid (HS2.out.below hb3)
  have HW3 := hid (HW2.out.trans (hb3.mono HW2.out.size))
  clear hh hb3
  go_wp2_with fail
  refine (HM.out _ b O2 A2 (HS3.out.below (below_alloc w3 _))).mono ?_; rintro e w4 ⟨rfl, hh⟩
  have HS4 := hid ((HS3.out.below (below_alloc w3 _)).below hh.out)
  have HW4 := hid ((HW3.out.trans ((below_alloc w3 _).mono HW3.out.size)).trans (hh.out.mono (Nat.le_trans HW3.out.size (below_alloc w3 _).size)))
  clear hh
  go_wp2_with fail
  refine (HC.out _ b O2 A2 HS4.out).mono ?_; rintro e w5 ⟨rfl, hh⟩
  have HW5 := hid (HW4.out.trans (hh.out.mono HW4.out.size))
  clear hh
  go_wp2_with fail
  go_ret
  exact ⟨rfl, HW5.out⟩

end Go.Proofs.YtppgifaegnmciaaDoor

namespace Go.Proofs.YtppgifaegnmciaaDoor
open Go.RowKit

noncomputable def runL (room : Int) (ops : List OpK) : List EP × Int := ops.foldl (fun s o => (doL s.1 room s.2 o, doN s.2 o)) ([], 0)
theorem runL_take {room : Int} {ops : List OpK} {i : Nat} (h : i < ops.length) : runL room (ops.take (i + 1)) = (doL (runL room (ops.take i)).1 room (runL room (ops.take i)).2 ops[i], doN (runL room (ops.take i)).2 ops[i]) := by
  unfold runL
  rw [List.take_succ_eq_append_getElem h, List.foldl_append]
  rfl
/-- calls that can come in -/
structure Given (w : World) (p : Option Addr) (ops : List OpK) : Prop where
  at_ : Ops w p ops
  arg : ∀ o ∈ ops, Arg8 o.e
  lies : ∀ o ∈ ops, Lies (fun j => j < w.heap.size) w o.e
  len : ops.length ≤ 140737488351232
theorem Given.below {w w' : World} {p : Option Addr} {ops : List OpK} (h : Given w p ops) (k : Below w.heap.size w w') : Given w' p ops := ⟨h.at_.below k, h.arg, fun o ho => (h.lies o ho).keepB (Keep.of_below k) (fun _ hi _ => Nat.lt_of_lt_of_le hi k.size), h.len⟩
theorem few_of {ops : List OpK} (h : fewB ops = true) : ops.length ≤ 200 ∧ ∀ o ∈ ops, o.e.m.pairs.length ≤ 300 ∧ o.e.m.items.length ≤ 300 := by
  unfold fewB at h
  rw [Bool.and_eq_true, decide_eq_true_eq, List.all_eq_true] at h
  exact ⟨h.1, fun o ho => of_decide_eq_true (h.2 o ho)⟩
theorem ok_small {x : E8} (h : Arg8 x) (h1 : x.m.pairs.length ≤ 300) (h2 : x.m.items.length ≤ 300) : Ok8 x := ⟨h.key, ⟨by omega, by omega, h.came.text, h.came.names, h.came.values, h.came.texts⟩⟩
/-- a space and the document's, behind w -/
def Begun (B : Nat) (w : World) (b : Nat) (L : List EP) (room now : Int) (p : Option Addr) (c : Nat) (Q : Nat → Prop) (W : World) : Prop :=
  ∃ O A, Both B W b O A Q L room now p c L.length ∧ (∀ k, A k → w.heap.size ≤ k ∧ Q k) ∧ Below w.heap.size w W
end Go.Proofs.YtppgifaegnmciaaDoor
