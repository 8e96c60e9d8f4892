/- The laws of reading: ValueLoads, ValueBack. -/
import Derived.Test.YtmjmdfenkhmfbaaDoorLawDumps
namespace Go.Proofs.YtmjmdfenkhmfbaaDoor
open Go.RowKit

theorem rt_small {m : Vl} (h : RtV m) : m.pairs.length ≤ 256 ∧ m.items.length ≤ 256 := by
  constructor
  · by_cases k : m.kind = 2
    · have := (h.k2 k).1.2.2; simpa using this
    · rw [h.pairs k]; simp
  · by_cases k3 : m.kind = 3
    · exact (h.k3 k3).2.2
    · by_cases k4 : m.kind = 4
      · exact (h.k4 k4).1.2.2
      · rw [h.items k3 k4]; simp
theorem load_small (s : Nm) : (loadV s).1.pairs.length ≤ 256 ∧ (loadV s).1.items.length ≤ 256 := by
  by_cases h : s.length < 3
  · rw [load_short h]; exact ⟨by decide, by decide⟩
  · by_cases k : sumOk s
    · by_cases hx : ∃ m, RtV m ∧ dumpV m = s
      · obtain ⟨m, hm, rfl⟩ := hx
        rw [load_dump hm]; exact rt_small hm
      · rw [load_none h k hx]; exact ⟨by decide, by decide⟩
    · rw [load_sum h k]; exact ⟨by decide, by decide⟩
set_option maxHeartbeats 2000000 in
set_option maxRecDepth 100000 in
theorem loads_any {V : World → Prop} (M : MethV V) (s : Nm) (w : World) (hV : V w) (hs : s.length ≤ 140737488351232) :
    Calls Tryd.prog 5 #[.string ⟨s.toArray⟩] w fun e w' => e = .returned (.bool true) ∧ Below w.heap.size w w' := by
  have HM := hid M
  have HV := hid hV
  have H1 := hid (fun W h => HM.out.load s W h hs)
  have H2 := hid (fun W => rload_any s W hs)
  have hsm := load_small s
  generalize loadV s = P at *
  obtain ⟨m, z⟩ := P
  dsimp only at *
  have H3 := hid (fun pp pc' ip ic pp2 pc2 ip2 ic2 W h1 h2 => rsame_any m m pp pc' ip ic pp2 pc2 ip2 ic2 W h1 h2 (by omega) (by omega))
  rw [decide_eq_true (rfl : m = m)] at H3
  have hzz : (z == z) = true := by simp
  clear M hV hsm
  go_enter Tryd.func5, Tryd.ntmps5
  go_wp2_with fail
  refine (H1.out _ HV.out).mono ?_; rintro e w1 ⟨pp, pc', ip, ic, rfl, hh⟩
  have HX1 := hid (val_new w1 m pp pc' ip ic)
  have HI1 := hid (hh.out.1.below (below_alloc w1 (vob m pp pc' ip ic)))
  have HW1 := hid (hh.out.2.trans ((below_alloc w1 (vob m pp pc' ip ic)).mono hh.out.2.size))
  clear hh
  go_wp2_with fail
  refine (H2.out _).mono ?_; rintro e w2 ⟨pp2, pc2, ip2, ic2, rfl, hh⟩
  have hx1 := (hh.out.2.2.block w1.heap.size (by simp)).trans HX1.out
  have HX2 := hid ((heap_alloc_old w2 (vob m pp2 pc2 ip2 ic2) (Array.getElem?_eq_some_iff.1 hx1).1).trans hx1)
  have HY2 := hid (val_new w2 m pp2 pc2 ip2 ic2)
  have HI2 := hid ((HI1.out.below hh.out.2.2).below (below_alloc w2 (vob m pp2 pc2 ip2 ic2)))
  have HJ2 := hid (hh.out.1.below (below_alloc w2 (vob m pp2 pc2 ip2 ic2)))
  have HW2 := hid (HW1.out.trans (hh.out.2.2.mono HW1.out.size))
  have HW3 := hid (HW2.out.trans ((below_alloc w2 (vob m pp2 pc2 ip2 ic2)).mono HW2.out.size))
  clear hh hx1
  go_wp2_with fail
  refine (alive_any HM.out _ (HM.out.env HV.out HW3.out)).mono ?_; rintro e w3 ⟨rfl, hh⟩
  have HX3 := hid ((hh.out.block w1.heap.size (Array.getElem?_eq_some_iff.1 HX2.out).1).trans HX2.out)
  have HY3 := hid ((hh.out.block w2.heap.size (by simp)).trans HY2.out)
  have HI3 := hid (HI2.out.below hh.out)
  have HJ3 := hid (HJ2.out.below hh.out)
  have HW4 := hid (HW3.out.trans (hh.out.mono HW3.out.size))
  clear hh
  obtain ⟨a0, a1, a2, a3, a4, a5⟩ := val_facts HX3.out
  obtain ⟨b0, b1, b2, b3, b4, b5⟩ := val_facts HY3.out
  go_wp2_with fail
  refine (H3.out pp pc' ip ic pp2 pc2 ip2 ic2 _ HI3.out HJ3.out).mono ?_; rintro e w4 ⟨rfl, hh⟩
  have HW5 := hid (HW4.out.trans (hh.out.mono HW4.out.size))
  clear hh
  go_wp2_with fail
  go_ret
  exact ⟨rfl, HW5.out⟩
set_option maxHeartbeats 2000000 in
set_option maxRecDepth 100000 in
theorem back_any {V : World → Prop} (M : MethV V) (m : Vl) (pp : Option Addr) (pc' : Nat) (ip : Option Addr) (ic : Nat) (w : World) (hV : V w) (hC : Came m) (hI : VI w m pp pc' ip ic) :
    Calls Tryd.prog 6 #[vv m pp pc' ip ic] w fun e w' => e = .returned (.bool true) ∧ Below w.heap.size w w' := by
  have HM := hid M
  have HV := hid hV
  have HVI := hid hI
  have HX := hid (val_new w m pp pc' ip ic)
  have HB := hid (below_alloc w (vob m pp pc' ip ic))
  obtain ⟨c0, c1, c2, c3, c4, c5⟩ := val_facts HX.out
  have H1 := hid (fun W h k => HM.out.dump m pp pc' ip ic W h hC k)
  have hmx := dumpS_max m
  have H2 := hid (fun W h => HM.out.load (dumpS m) W h (by omega))
  have H3 := hid (fun pp2 pc2 ip2 ic2 W h1 h2 => rsame_any m m pp pc' ip ic pp2 pc2 ip2 ic2 W h1 h2 hC.pairs hC.items)
  rw [decide_eq_true (rfl : m = m)] at H3
  cases hr : rightB m with
  | true =>
    rw [hr] at H1
    rw [show loadV (dumpS m) = (m, 0) by rw [show dumpS m = dumpV m from if_pos hr]; exact load_dump (rightB_iff.1 hr)] at H2
    generalize dumpS m = D at *
    clear M hV hI hr hmx
    go_enter Tryd.func6, Tryd.ntmps6
    go_wp2_with fail
    refine (H1.out _ (HM.out.env HV.out HB.out) (HVI.out.below HB.out)).mono ?_; rintro e w1 ⟨rfl, hh⟩
    have HX1 := hid ((hh.out.block w.heap.size (by simp)).trans HX.out)
    have HW1 := hid (HB.out.trans (hh.out.mono HB.out.size))
    clear hh c0 c1 c2 c3 c4 c5
    go_wp2_with fail
    refine (H2.out _ (HM.out.env HV.out HW1.out)).mono ?_; rintro e w2 ⟨pp2, pc2, ip2, ic2, rfl, hh⟩
    have hx1 := (hh.out.2.block w.heap.size (Array.getElem?_eq_some_iff.1 HX1.out).1).trans HX1.out
    have HX2 := hid ((heap_alloc_old w2 (vob m pp2 pc2 ip2 ic2) (Array.getElem?_eq_some_iff.1 hx1).1).trans hx1)
    have HY2 := hid (val_new w2 m pp2 pc2 ip2 ic2)
    have HJ2 := hid (hh.out.1.below (below_alloc w2 (vob m pp2 pc2 ip2 ic2)))
    have HW2 := hid (HW1.out.trans (hh.out.2.mono HW1.out.size))
    have HW3 := hid (HW2.out.trans ((below_alloc w2 (vob m pp2 pc2 ip2 ic2)).mono HW2.out.size))
    clear hh hx1
    go_wp2_with fail
    refine (alive_any HM.out _ (HM.out.env HV.out HW3.out)).mono ?_; rintro e w3 ⟨rfl, hh⟩
    have HX3 := hid ((hh.out.block w.heap.size (Array.getElem?_eq_some_iff.1 HX2.out).1).trans HX2.out)
    have HY3 := hid ((hh.out.block w2.heap.size (by simp)).trans HY2.out)
    have HJ3 := hid (HJ2.out.below hh.out)
    have HW4 := hid (HW3.out.trans (hh.out.mono HW3.out.size))
    clear hh
    obtain ⟨a0, a1, a2, a3, a4, a5⟩ := val_facts HX3.out
    obtain ⟨b0, b1, b2, b3, b4, b5⟩ := val_facts HY3.out
    go_wp2_with fail
    refine (H3.out pp2 pc2 ip2 ic2 _ (HVI.out.below HW4.out) HJ3.out).mono ?_; rintro e w4 ⟨rfl, hh⟩
    have HW5 := hid (HW4.out.trans (hh.out.mono HW4.out.size))
    clear hh
    go_wp2_with fail
    go_ret
    exact ⟨rfl, HW5.out⟩
  | false =>
    rw [hr] at H1
    generalize loadV (dumpS m) = P at *
    obtain ⟨m2, z⟩ := P
    dsimp only at *
    generalize dumpS m = D at *
    clear M hV hI hr hmx H3
    go_enter Tryd.func6, Tryd.ntmps6
    go_wp2_with fail
    refine (H1.out _ (HM.out.env HV.out HB.out) (HVI.out.below HB.out)).mono ?_; rintro e w1 ⟨rfl, hh⟩
    have HW1 := hid (HB.out.trans (hh.out.mono HB.out.size))
    clear hh c0 c1 c2 c3 c4 c5
    go_wp2_with fail
    refine (H2.out _ (HM.out.env HV.out HW1.out)).mono ?_; rintro e w2 ⟨pp2, pc2, ip2, ic2, rfl, hh⟩
    have HW2 := hid (HW1.out.trans (hh.out.2.mono HW1.out.size))
    have HW3 := hid (HW2.out.trans ((below_alloc w2 (vob m2 pp2 pc2 ip2 ic2)).mono HW2.out.size))
    clear hh
    go_wp2_with fail
    refine (alive_any HM.out _ (HM.out.env HV.out HW3.out)).mono ?_; rintro e w3 ⟨rfl, hh⟩
    have HW4 := hid (HW3.out.trans (hh.out.mono HW3.out.size))
    clear hh
    go_wp2_with fail
    go_ret
    exact ⟨rfl, HW4.out⟩

end Go.Proofs.YtmjmdfenkhmfbaaDoor
