/- One text behind another: the walk of the law CrcJoins. -/
import Derived.Test.YtmokokkdllmdoaaDoorEnds
import Derived.Test.YtmokokkdllmdoaaDoorBulk
namespace Go.Proofs.YtmokokkdllmdoaaDoor
open Go.RowKit
open Crc

set_option maxHeartbeats 400000 in
theorem joins_walk (a : Option Addr) (cap : Nat) (l : List (BitVec 8)) (a2 : Option Addr) (cap2 : Nat) (m : List (BitVec 8)) (w : World) (ht : Tab w) (hr : Row w a l) (hno : a = none → cap = 0) (hl : l.length ≤ 1048576) (hr2 : Row w a2 m) (hno2 : a2 = none → cap2 = 0) (hm : m.length ≤ 1048576) :
    Calls Tryd.prog 5 #[.slice a l.length cap, .slice a2 m.length cap2] w fun e w' => e = .returned (.bool true) ∧ Below w.heap.size w w' := by
  have hown := own_new _ w [] (Nat.le_refl _) (by simp)
  have hb2 := (Below.refl w.heap.size w).alloc (Nat.le_refl _) (.cells (cellsOf []).toArray 5)
  obtain ⟨g, cap', w2, hrun, hown2, hb3⟩ := append_run w.heap.size _ _ _ _ a cap l hown (hr.below hb2) hno hb2.size (by simp; omega)
  simp only [List.nil_append, List.length_nil, Nat.zero_add] at hrun hown2
  have hb4 := hb2.trans hb3
  obtain ⟨g5, cap5, w5, hrun5, hown5, hb6⟩ := append_run w.heap.size w2 g cap' l a2 cap2 m hown2 (hr2.below hb4) hno2 hb4.size (by omega)
  have hb7 := hb4.trans hb6
  have HT := hid (ht.below hb7)
  have HR := hid (hr.below hb7)
  have HR2 := hid (hr2.below hb7)
  have HR5 := hid hown5.row
  have HA := hid (alive_any w5 HT.out)
  have hlen : (l ++ m).length = l.length + m.length := by simp
  have HL := hid hlen
  have HJ := hid (more_append 0#16 l m)
  have HB := hid hb7
  have HRun := hid hrun
  have HRun5 := hid hrun5
  clear hlen hown hb2 hown2 hb3 hb4 hown5 hb6 hb7 hrun hrun5 ht hr hr2
  go_enter Tryd.func5, Tryd.ntmps5
  go_wp2_with (at_builtin; refine wpList_append_run rfl _ _ 22 rfl _ _ _ _ rfl rfl HRun.out (Hid.out ?_))
  refine hid ?_
  go_wp2_with (at_builtin; refine wpList_append_run rfl _ _ 22 rfl _ _ _ _ rfl rfl HRun5.out (Hid.out ?_))
  refine hid ?_
  clear HRun HRun5
  go_wp2_with fail
  refine HA.out.mono ?_
  rintro e w6 ⟨rfl, hb8⟩
  have HS := hid (sum_any (some ⟨g5, 0, none⟩) cap5 _ w6 (HT.out.below hb8) (HR5.out.below hb8))
  rw [HL.out, HJ.out] at HS
  have HB8 := hid hb8
  clear hb8
  go_wp2_with fail
  refine HS.out.mono ?_
  rintro e w' ⟨rfl, rfl⟩
  go_wp2_with fail
  refine (sum_any _ _ l _ (HT.out.below HB8.out) (HR.out.below HB8.out)).mono ?_
  rintro e w' ⟨rfl, rfl⟩
  go_wp2_with fail
  refine (more_any _ _ _ m _ (HT.out.below HB8.out) (HR2.out.below HB8.out)).mono ?_
  rintro e w' ⟨rfl, rfl⟩
  go_wp2
  go_ret
  exact ⟨rfl, HB.out.trans (HB8.out.mono HB.out.size)⟩

end Go.Proofs.YtmokokkdllmdoaaDoor
