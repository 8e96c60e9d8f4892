/- LawV0. -/
import Derived.Test.YtdicjnkbmlamgabM33
import Derived.Test.YtdicjnkbmlamgabM15
namespace Go.Proofs.Ytdicjnkbmlamgab
open Go.RowKit
open Slot

/-- a row of calls that may be read -/
def OpR (w : World) (a : Option Addr) (L : List OpV) : Prop := L ≠ [] → ∃ b o, a = some ⟨b, o, none⟩ ∧ b < w.heap.size ∧ ∀ j (h : j < L.length), w.rangeAt b (o + j * 265) (opCells L[j]).toList
theorem OpR.below {w w' : World} {n : Nat} {a : Option Addr} {L : List OpV} (h : OpR w a L) (hb : Below n w w') (hn : w.heap.size ≤ n) : OpR w' a L := fun hne => by
  obtain ⟨b, o, rfl, h1, h2⟩ := h hne
  refine ⟨b, o, rfl, Nat.lt_of_lt_of_le h1 hb.size, fun j hj i v hv => ?_⟩
  rw [hb.cell (p := ⟨b, o + j * 265 + i, none⟩) (by show b < n; omega)]
  exact h2 j hj i v hv
theorem infoOl (o : OpV) : (Try.prog.info? 38).map (·.size) = some (opCells o).toList.length := by rw [Array.length_toList]; exact infoOp o
theorem owns_slice {w : World} {B : Nat} {e : TypeId} {s : Nat} {v : Value} {n : Nat} {xs : List Value} (h : w.ownsRow B e s v n xs) : ∃ a c, v = .slice a n c := by
  rcases h.2 with ⟨rfl, rfl⟩ | ⟨g, cap, _, rfl, _⟩
  · exact ⟨_, _, rfl⟩
  · exact ⟨_, _, rfl⟩
theorem fwR (S : Nat → Bool) (W : World) : Calls Try.prog 17 #[.agg (cellsOf S)] W fun e w' => (∃ a n c, e = .returned (.slice a n c) ∧ n ≤ 16384) ∧ Below W.heap.size W w' := by
  refine (rRanges_any S W).mono ?_
  rintro e w' ⟨⟨l, v, B, rfl, hr, -, ho⟩, hb⟩
  obtain ⟨a, c, rfl⟩ := owns_slice ho
  exact ⟨⟨a, _, c, rfl, by have := hr.length (Nat.zero_le _); unfold top at this; omega⟩, hb⟩
theorem fwA (S : Nat → Bool) (W : World) : Calls Try.prog 18 #[.agg (cellsOf S)] W fun e w' => (∃ a n c, e = .returned (.slice a n c) ∧ n ≤ 16384) ∧ Below W.heap.size W w' := by
  refine (rAll_any S W).mono ?_
  rintro e w' ⟨⟨v, rfl, ho⟩, hb⟩
  obtain ⟨a, c, rfl⟩ := owns_slice ho
  exact ⟨⟨a, _, c, rfl, upto_len S 16384⟩, hb⟩
theorem OBox.cl {w : World} {b : Nat} {o : OpV} (h : OBox w b o) : w.rangeAt b 9 (cellsOf o.p.cl).toList := fun j v hv => by
  have hj : j < 256 := by
    have := (List.getElem?_eq_some_iff.1 hv).1
    rwa [Array.length_toList, cellsOf_size] at this
  have := h.pk (5 + j) v (by
    rw [Array.getElem?_toList]
    unfold pkCells
    rw [Array.getElem?_append_right (by simp)]
    rw [Array.getElem?_toList] at hv
    simpa using hv)
  rw [show 9 + j = 4 + (5 + j) by omega]
  exact this
theorem wpList_load_mid_want {P : Program} {ops : Array Oper} {rest : List Oper} {op : Oper} {a : Act} {w : World} {Q : Exit → Act → World → Prop} (hw : Region.wanted op (yielded ops a.tmps) = true) (ty : TypeId) (x : Operand) (ho : op.op = .load ty x)
    (b o : Nat) (hx : a.eval x = .pointer (some ⟨b, o, none⟩)) (cs : List Value) (d : TypeDesc) (hc : w.rangeAt b o cs)
    (hu : P.underlying ty = some d) (hd : d.isRow = true) (hi : (P.info? ty).map (·.size) = some cs.length)
    (h : wpList P ops Q rest (a.put op.dst (.agg cs.toArray)) w) : wpList P ops Q (op :: rest) a w := by
  refine wpList_step fun K hK => ?_
  rw [if_pos hw]
  exact wp_load_mid ty x ho b o hx cs d hc hu hd hi (hK _ _ h)
def FewP (n : Nat) (w : World) (e : Ending) (w' : World) : Prop := ∃ B : Bool, e = .returned (.bool B) ∧ (B = true → n ≤ 40) ∧ Below w.heap.size w w'
set_option maxHeartbeats 4000000 in
set_option maxRecDepth 100000 in
theorem few_any (a : Option Addr) (L : List OpV) (n c : Nat) (w : World) (hn : L.length = n) (hL : OpR w a L) (hm : n ≤ 9223372036854775807) : Calls Try.prog 5 #[.slice a n c] w (FewP n w) := by
  by_cases h40 : 40 < n
  · have hz : (40 : Int) < (n : Int) := by omega
    clear hL hn
    go_enter Try.func5, Try.ntmps5
    go_wp2_with fail
    go_ret
    exact ⟨false, rfl, (fun h => by cases h), Below.refl _ _⟩
  · have hz : (n : Int) ≤ 40 := by omega
    have HLo := hid hL
    have HN := hid hn
    have H40 : Hid (n ≤ 40) := by show _ ≤ _; omega
    clear hL hn h40 hm
    go_enter Try.func5, Try.ntmps5
    go_wp2_with fail
    go_loopw [10] (fun i wr => ∃ k : Nat, k ≤ n ∧ i = .int .i64 k ∧ Hid (Below w.heap.size w wr)) (fun i _ => n - (intOf i).toNat)
    case atStart => exact ⟨0, by omega, rfl, Below.refl _ _⟩
    case round =>
      obtain ⟨k, hk, rfl, HW⟩ := hrel
      by_cases hlt : k < n
      · have hkz : (k : Int) < (n : Int) := by omega
        have hkL : k < L.length := by have := HN.out; omega
        obtain ⟨b, o, rfl, hbl, h1⟩ := HLo.out (fun e => by rw [e] at hkL; exact absurd hkL (Nat.not_lt_zero _))
        obtain ⟨op, hop⟩ : ∃ op, L[k] = op := ⟨_, rfl⟩
        have g0 := h1 k hkL
        rw [hop] at g0
        have HG : Hid (wr.rangeAt b (o + k * 265) (opCells op).toList) := fun j v hv => by
          rw [HW.out.cell (p := ⟨b, o + k * 265 + j, none⟩) hbl]; exact g0 j v hv
        have iO := infoOl op
        have iO2 := infoOp op
        have oO := opCells_one op
        have hta : (opCells op).toList.toArray = opCells op := Array.toArray_toList
        clear h1 g0 hop hkL
        have HZ := hid (heap_alloc_new wr (.cells Try.zeroCells38 38))
        have zs : Try.zeroCells38.size = (opCells op).size := by rw [opCells_size]; exact Try.zeroCells38_size
        have HBx : Hid (OBox ((wr.alloc (.cells Try.zeroCells38 38)).setRow wr.heap.size (opCells op)) wr.heap.size op) := setRow_heap _ _ _ _ _ _ HZ.out
        have HW2 := hid (below_setRow (g := wr.heap.size) (HW.out.alloc HW.out.size (.cells Try.zeroCells38 38)) HW.out.size (opCells op))
        obtain ⟨OC, hOC⟩ : ∃ C, opCells op = C := ⟨_, rfl⟩
        rw [hOC] at HG iO iO2 oO hta zs HBx HW2
        clear hOC
        go_upto_region 6 with (first | (refine wpList_load_mid rfl 38 _ rfl b (o + k * 265) rfl _ _ HG.out Try.underlying38 rfl iO ?_; rw [hta]) | (refine wpList_store_row rfl 38 _ _ rfl wr.heap.size OC rfl rfl 38 _ HZ.out iO2 zs oO ?_))
        generalize (wr.alloc (.cells Try.zeroCells38 38)).setRow wr.heap.size OC = w4 at *
        generalize wr.heap.size = ob at *
        have HC4 := hid HBx.out.cl
        have HRg := hid (fun W => fwR op.p.cl W)
        have HAl := hid (fun W => fwA op.p.cl W)
        have iC := infoBl (S := op.p.cl)
        have hcs : (cellsOf op.p.cl).toList.toArray = cellsOf op.p.cl := Array.toArray_toList
        have HBl : Hid (∀ w', Below w4.heap.size w4 w' → w'.rangeAt ob 9 (cellsOf op.p.cl).toList) := fun w' hb => (show OBox w' ob op from (hb.block _ HBx.out.lt).trans HBx.out).cl
        generalize cellsOf op.p.cl = CS at *
        clear HBx HZ iO iO2 oO hta zs HG HW
        go_wp2_with (refine wpList_load_mid rfl 24 _ rfl ob 9 rfl _ _ HC4.out Try.underlying24 rfl iC ?_; rw [hcs])
        refine (HRg.out _).mono ?_; rintro e w5 ⟨⟨a1, n1, c1, rfl, h1⟩, hb⟩
        have HC5 := hid (HBl.out _ hb)
        have HW5 := hid (HW2.out.trans (hb.mono HW2.out.size))
        clear hb
        have hz1 : (n1 : Int) ≤ 16384 := by omega
        by_cases h401 : 40 < n1
        · have hz2 : (40 : Int) < (n1 : Int) := by omega
          go_wp2_with fail
          go_ret
          exact ⟨false, rfl, (fun h => by cases h), HW5.out⟩
        · have hz2 : ¬ (40 : Int) < (n1 : Int) := by omega
          have hD : decide ((40 : Int) < (n1 : Int)) = false := decide_eq_false hz2
          go_wp2_with (refine wpList_load_mid_want rfl 24 _ rfl ob 9 rfl _ _ HC5.out Try.underlying24 rfl iC ?_; rw [Array.toArray_toList])
          refine (HAl.out _).mono ?_; rintro e w6 ⟨⟨a2, n2, c2, rfl, h2⟩, hb⟩
          have HW6 := hid (HW5.out.trans (hb.mono HW5.out.size))
          clear hb
          have hz3 : (n2 : Int) ≤ 16384 := by omega
          by_cases h600 : 600 < n2
          · have hz4 : (600 : Int) < (n2 : Int) := by omega
            go_wp2_with fail
            go_ret
            exact ⟨false, rfl, (fun h => by cases h), HW6.out⟩
          · have hz4 : ¬ (600 : Int) < (n2 : Int) := by omega
            go_wp2_with fail
            go_roundw
            case rel => exact ⟨k + 1, by omega, by go_num, HW6.out⟩
            case measure => simp [intOf]; omega
      · obtain rfl : k = n := by omega
        go_wp2_with fail
        go_ret
        exact ⟨true, rfl, (fun _ => H40.out), HW.out⟩

end Go.Proofs.Ytdicjnkbmlamgab
