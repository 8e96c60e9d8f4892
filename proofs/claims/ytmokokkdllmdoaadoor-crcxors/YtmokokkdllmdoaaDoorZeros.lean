/- Zeros ahead are not seen: the walk of the law CrcZeros. -/
import Derived.Test.YtmokokkdllmdoaaDoorGrow
namespace Go.Proofs.YtmokokkdllmdoaaDoor
open Go.RowKit
open Crc

theorem step_zero : Crc.step 0#16 0#8 = 0#16 := by decide +kernel
theorem more_zeros (n : Nat) (l : List (BitVec 8)) : more 0#16 (List.replicate n 0#8 ++ l) = more 0#16 l := by
  induction n with
  | zero => rfl
  | succ n ih =>
    rw [List.replicate_succ, List.cons_append, more, List.foldl_cons, step_zero]
    exact ih

theorem make_run (n : Nat) (hn : n ≤ 281474976710656) (u : World) : (Instr.makeSlice 22 (.int .i64 (n : Int)) (.int .i64 (n : Int))).run Tryd.prog u =
    .ok (.slice (some ⟨u.heap.size, 0, none⟩) n n) (u.alloc (.cells (cellsOf (List.replicate n 0#8)).toArray 5)) := by
  obtain ⟨i0, hi, hz0, hz1, hz2⟩ := info_parts info5
  have h := run_make (P := Tryd.prog) u 22 5 i0 (.int .u8 0) Tryd.underlying22 hi hz0 .i64 .i64 (n : Int) (n : Int) (by omega) (Int.le_refl _) (by rw [hz2]; omega) (by omega)
  have e : madeCells (Value.int .u8 0).cells n = (cellsOf (List.replicate n 0#8)).toArray := by
    apply Array.ext'
    rw [show (Value.int .u8 0).cells = #[Value.int .u8 0] from rfl, toList_madeCells_one]
    simp [cellsOf]
  rw [hz1, Nat.mul_one, Int.toNat_natCast, e] at h
  exact h

set_option maxHeartbeats 400000 in
theorem zeros_out (n : Int) (v : Value) (w : World) (h : n < 0 ∨ 1000 < n) (ht : Tab w) :
    Calls Tryd.prog 6 #[.int .i64 n, v] w fun e w' => e = .returned (.bool true) ∧ Below w.heap.size w w' := by
  have HA := hid (alive_any w ht)
  clear ht
  rcases h with h | h
  · go_enter Tryd.func6, Tryd.ntmps6
    go_wp2_with fail
    refine HA.out.mono ?_
    rintro e w1 ⟨rfl, hb⟩
    have HB := hid hb
    clear hb
    go_wp2
    go_ret
    exact ⟨rfl, HB.out⟩
  · have h' : ¬ n < 0 := by omega
    go_enter Tryd.func6, Tryd.ntmps6
    go_wp2_with fail
    refine HA.out.mono ?_
    rintro e w1 ⟨rfl, hb⟩
    have HB := hid hb
    clear hb
    go_wp2
    go_ret
    exact ⟨rfl, HB.out⟩

set_option maxHeartbeats 400000 in
theorem zeros_in (n : Nat) (a : Option Addr) (cap : Nat) (l : List (BitVec 8)) (w : World) (hn : n ≤ 1000) (ht : Tab w) (hr : Row w a l) (hno : a = none → cap = 0) (hl : l.length ≤ 140737488351232) :
    Calls Tryd.prog 6 #[.int .i64 (n : Int), .slice a l.length cap] w fun e w' => e = .returned (.bool true) ∧ Below w.heap.size w w' := by
  have HA := hid (alive_any w ht)
  have HT := hid ht
  have HR := hid hr
  have HM := hid (make_run n (by omega))
  clear ht hr
  have h1 : ¬ (n : Int) < 0 := by omega
  have h2 : ¬ (1000 : Int) < n := by omega
  go_enter Tryd.func6, Tryd.ntmps6
  go_wp2_with fail
  refine HA.out.mono ?_
  rintro e w1 ⟨rfl, hb⟩
  have hmk := HM.out
  have hlen : (List.replicate n 0#8).length = n := by simp
  have hown := own_new w.heap.size w1 (List.replicate n 0#8) hb.size (by rw [hlen]; unfold maxLen; omega)
  have hb2 : Below w.heap.size w (w1.alloc (.cells (cellsOf (List.replicate n 0#8)).toArray 5)) := hb.alloc hb.size _
  have happ := append_run w.heap.size _ _ _ _ a cap l hown (HR.out.below hb2) hno hb2.size (by rw [hlen]; omega)
  rw [hlen] at happ
  obtain ⟨g, cap', w2, hrun, hown2, hb3⟩ := happ
  have hb4 := hb2.trans hb3
  have HB := hid hb4
  have HO := hid hown2.row
  have hlen2 : (List.replicate n 0#8 ++ l).length = n + l.length := by simp
  have HS := hid (sum_any (some ⟨g, 0, none⟩) cap' _ w2 (HT.out.below hb4) hown2.row)
  rw [hlen2] at HS
  have HZ := hid (more_zeros n l)
  clear hb hb2 hb3 hb4 hown hown2 hlen hlen2 HM
  generalize (cellsOf (List.replicate n 0#8)).toArray = C at hmk hrun
  have HRun := hid hrun
  clear hrun
  go_wp2_with (at_builtin; refine wpList_append_run rfl _ _ 22 rfl _ _ _ _ rfl rfl HRun.out ?_)
  refine HS.out.mono ?_
  rintro e w' ⟨rfl, rfl⟩
  go_wp2_with fail
  refine (sum_any _ _ l _ (HT.out.below HB.out) (HR.out.below HB.out)).mono ?_
  rintro e w' ⟨rfl, rfl⟩
  rw [HZ.out]
  go_wp2
  go_ret
  exact ⟨rfl, HB.out⟩

theorem zeros_walk (n : Int) (a : Option Addr) (cap : Nat) (l : List (BitVec 8)) (w : World) (ht : Tab w) (hr : Row w a l) (hno : a = none → cap = 0) (hl : l.length ≤ 140737488351232) :
    Calls Tryd.prog 6 #[.int .i64 n, .slice a l.length cap] w fun e w' => e = .returned (.bool true) ∧ Below w.heap.size w w' := by
  by_cases h : n < 0 ∨ 1000 < n
  · exact zeros_out n _ w h ht
  · obtain ⟨N, rfl⟩ := Int.eq_ofNat_of_zero_le (show 0 ≤ n by omega)
    exact zeros_in N a cap l w (by omega) ht hr hno hl

end Go.Proofs.YtmokokkdllmdoaaDoor
