/- A row of three: the law's alive. -/
import Derived.Test.YtmlnjcmkengkhaaPlays
namespace Go.Proofs.Ytmlnjcmkengkhaa
open Go.RowKit

theorem three_tl (w : World) : Tl (fun _ => True) (w.alloc (.cells #[txt [99], txt [97], txt [98]] 9)) (.slice (some ⟨w.heap.size, 0, none⟩) 3 3) [[99], [97], [98]] :=
  .inr ⟨w.heap.size, 0, 3, rfl, by simp, trivial, by simp, fun i hi => by
    rw [Nat.zero_add, cell_of_row _ _ _ _ _ _ (heap_alloc_new w _)]
    match i, hi with
    | 0, _ => rfl
    | 1, _ => rfl
    | 2, _ => rfl⟩
theorem Keep.end {n : Nat} {w w' w'' : World} {b : Nat} (h : Below n w w') (k : Keep (But b) w' w'') (hb : n ≤ b) (hn : n ≤ w'.heap.size) : Below n w w'' :=
  Below.tail h k (fun i hi => by show i ≠ b; omega) hn
set_option maxHeartbeats 2000000 in
set_option maxRecDepth 100000 in
/-- alive -/
theorem alive_any {Dq : World → Nat → Row → Prop} (M : Meth Dq) (w : World) : Calls Try.prog 10 #[] w fun e w' => e = .returned (.bool true) ∧ Hid (Below w.heap.size w w') := by
  have HM := hid M
  have HN := hid (M.new w)
  have e1 : pushL [] false [97] = [[97]] := by simp [pushL]
  have e2 : pushL [[97]] false [98] = [[97], [98]] := by simp [pushL]
  have e3 : pushL [[97], [98]] true [99] = [[99], [97], [98]] := by simp [pushL]
  have HP1 := hid fun b w' h => M.push b [] false [97] w' h
  have HP2 := hid fun b w' h => M.push b [[97]] false [98] w' h
  have HP3 := hid fun b w' h => M.push b [[97], [98]] true [99] w' h
  rw [e1] at HP1
  rw [e2] at HP2
  rw [e3] at HP3
  have HL := hid fun b w' h => M.length b [[99], [97], [98]] w' h
  have HR := hid fun b w' h => M.range b [[99], [97], [98]] 0 (-1) w' h (by decide) (by decide) (by decide) (by decide)
  rw [rangeL_all] at HR
  simp only [List.length_cons, List.length_nil, Nat.zero_add, Nat.reduceAdd] at HL HR
  clear M e1 e2 e3
  go_enter Try.func10, Try.ntmps10
  go_wp2_with fail
  refine HN.out.mono ?_; rintro e w1 ⟨b, rfl, hh⟩
  have H1 := hid hh.out
  clear hh
  go_wp2_with fail
  refine (HP1.out b _ H1.out.2.1).mono ?_; rintro e w2 ⟨rfl, hh⟩
  have H2 := hid hh.out
  have K2 := hid (Keep.end H1.out.2.2 hh.out.2 H1.out.1 H1.out.2.2.size)
  clear hh
  go_wp2_with fail
  refine (HP2.out b _ H2.out.1).mono ?_; rintro e w3 ⟨rfl, hh⟩
  have H3 := hid hh.out
  have K3 := hid (Keep.end K2.out hh.out.2 H1.out.1 K2.out.size)
  clear hh
  go_wp2_with fail
  refine (HP3.out b _ H3.out.1).mono ?_; rintro e w4 ⟨rfl, hh⟩
  have H4 := hid hh.out
  have K4 := hid (Keep.end K3.out hh.out.2 H1.out.1 K3.out.size)
  clear hh
  go_wp2_with fail
  refine (HL.out b _ H4.out.1).mono ?_; rintro e w5 ⟨rfl, hh⟩
  have H5 := hid hh.out
  have K5 := hid (Keep.end K4.out hh.out.2 H1.out.1 K4.out.size)
  clear hh
  go_wp2_with fail
  refine (HR.out b _ H5.out.1).mono ?_; rintro e w6 ⟨p, c, rfl, hh⟩
  have H6 := hid hh.out
  have K6 := hid (Keep.end K5.out hh.out.2.2 H1.out.1 K5.out.size)
  clear hh
  go_wp2_with fail
  refine (same_any _ _ _ _ [[99], [97], [98]] [[99], [97], [98]] _ (H6.out.1.below (below_alloc w6 _)) (three_tl w6) (by decide)).mono ?_
  rintro e w7 ⟨rfl, hb7⟩
  have K7 := hid (K6.out.trans (((below_alloc w6 (.cells #[txt [99], txt [97], txt [98]] 9)).trans (hb7.out.mono (by simp))).mono K6.out.size))
  have hdt : decide (([[99], [97], [98]] : Row) = [[99], [97], [98]]) = true := by decide
  rw [hdt]
  clear hb7 hdt
  go_wp2_with fail
  go_ret
  exact ⟨rfl, K7.out⟩

end Go.Proofs.Ytmlnjcmkengkhaa
