/- A text with its sum behind it: the walk of the law CrcEnds. -/
import Derived.Test.YtmokokkdllmdoaaDoorZeros
namespace Go.Proofs.YtmokokkdllmdoaaDoor
open Go.RowKit
open Crc

def hiB (s : BitVec 16) : BitVec 8 := (s >>> 8).setWidth 8
def loB (s : BitVec 16) : BitVec 8 := s.setWidth 8
theorem hiB_xor (s t : BitVec 16) : hiB (s ^^^ t) = hiB s ^^^ hiB t := by
  apply BitVec.eq_of_getLsbD_eq
  intro i hi
  simp [hiB, hi]
theorem loB_xor (s t : BitVec 16) : loB (s ^^^ t) = loB s ^^^ loB t := by
  apply BitVec.eq_of_getLsbD_eq
  intro i hi
  simp [loB, hi]
theorem ends_zero (s : BitVec 16) : Crc.step (Crc.step s (hiB s)) (loB s) = 0#16 := by
  refine lin_ext (fun s => Crc.step (Crc.step s (hiB s)) (loB s)) (fun _ => 0#16) (fun a b => ?_) (fun a b => by simp) (by decide +kernel) (by decide +kernel) s
  show Crc.step (Crc.step (a ^^^ b) (hiB (a ^^^ b))) (loB (a ^^^ b)) = _
  rw [hiB_xor, loB_xor, step_xor, step_xor]
theorem more_ends (l : List (BitVec 8)) : more 0#16 (l ++ [hiB (more 0#16 l), loB (more 0#16 l)]) = 0#16 := by
  rw [more_append]
  generalize more 0#16 l = s
  exact ends_zero s
theorem hiB_nat (s : BitVec 16) : ((s.toNat : Int) / 256) = ((hiB s).toNat : Int) := by
  have := s.isLt
  simp [hiB, Nat.shiftRight_eq_div_pow]
  omega
theorem loB_nat (s : BitVec 16) : IntKind.u8.wrap (s.toNat : Int) = ((loB s).toNat : Int) := by
  rw [IntKind.wrap_u8']
  simp [loB]

set_option maxHeartbeats 400000 in
theorem ends_walk (a : Option Addr) (cap : Nat) (l : List (BitVec 8)) (w : World) (ht : Tab w) (hr : Row w a l) (hno : a = none → cap = 0) (hl : l.length ≤ 140737488351232) :
    Calls Tryd.prog 8 #[.slice a l.length cap] w fun e w' => e = .returned (.bool true) ∧ Below w.heap.size w w' := by
  have HA := hid (alive_any w ht)
  have HT := hid ht
  have HR := hid hr
  have HS0 := hid (sum_any a cap l w ht hr)
  have HE := hid (more_ends l)
  clear ht hr
  generalize more 0#16 l = S at HS0 HE
  go_enter Tryd.func8, Tryd.ntmps8
  go_wp2_with fail
  refine HS0.out.mono ?_
  rintro e w' ⟨rfl, rfl⟩
  go_wp2_with fail
  refine HA.out.mono ?_
  rintro e w1 ⟨rfl, hb⟩
  have hown := own_new _ w1 [] hb.size (by simp)
  have hb2 := hb.alloc hb.size (.cells (cellsOf []).toArray 5)
  obtain ⟨g, cap', w2, hrun, hown2, hb3⟩ := append_run _ _ _ _ _ a cap l hown (HR.out.below hb2) hno hb2.size (by simp; omega)
  simp only [List.nil_append, List.length_nil, Nat.zero_add] at hrun hown2
  have hb4 := hb2.trans hb3
  have h5 := hiB_nat S
  have h6 := loB_nat S
  have hown3 := own_new w'.heap.size w2 [hiB S, loB S] hb4.size (by simp [maxLen])
  have hb5 := hb4.alloc hb4.size (.cells (cellsOf [hiB S, loB S]).toArray 5)
  have hown4 : Own w'.heap.size (w2.alloc (.cells (cellsOf [hiB S, loB S]).toArray 5)) g cap' l := World.ownsRow.alloc hown2 (.cells (cellsOf [hiB S, loB S]).toArray 5)
  obtain ⟨g5, cap5, w5, hrun5, hown5, hb6⟩ := append_run w'.heap.size (w2.alloc (.cells (cellsOf [hiB S, loB S]).toArray 5)) g cap' l (some ⟨w2.heap.size, 0, none⟩) 2 [hiB S, loB S] hown4 hown3.row (fun h => by cases h) hb5.size (by simp; omega)
  have hb7 := hb5.trans hb6
  have hlen : (l ++ [hiB S, loB S]).length = l.length + 2 := by simp
  have HS := hid (sum_any (some ⟨g5, 0, none⟩) cap5 _ w5 (HT.out.below hb7) hown5.row)
  rw [HE.out, hlen] at HS
  have HB := hid hb7
  have HRun := hid hrun
  have HRun5 : Hid ((Builtin.append_ #[22, 22] 22 #[.slice (some ⟨g, 0, none⟩) l.length cap', .slice (some ⟨w2.heap.size, 0, none⟩) 2 2]).run Tryd.prog (w2.alloc (.cells #[.int .u8 ((hiB S).toNat : Int), .int .u8 ((loB S).toNat : Int)] 5)) = .ok (.slice (some ⟨g5, 0, none⟩) (l.length + 2) cap5) w5) := hrun5
  clear hlen hb hb2 hb3 hb4 hb5 hb6 hb7 hown hown2 hown3 hown4 hown5 hrun hrun5
  go_wp2_with (at_builtin; refine wpList_append_run rfl _ _ 22 rfl _ _ _ _ rfl rfl HRun.out (Hid.out ?_))
  refine hid ?_
  clear HRun
  go_wp2_with (at_builtin; refine wpList_append_run rfl _ _ 22 rfl _ _ _ _ rfl rfl HRun5.out ?_)
  refine HS.out.mono ?_
  rintro e w'' ⟨rfl, rfl⟩
  go_wp2
  go_ret
  exact ⟨rfl, HB.out⟩

end Go.Proofs.YtmokokkdllmdoaaDoor
