/- The laws ValueAgain, ValueUnlike. -/
import Derived.Test.YtmjmdfenkhmfbabDoorVMeth
namespace Go.Proofs.YtmjmdfenkhmfbabDoor
open Go.RowKit

theorem load_cases (s : Nm) : (loadV s).2 ≠ 0 ∨ (RtV (loadV s).1 ∧ dumpV (loadV s).1 = s) := by
  by_cases h : s.length < 3
  · rw [load_short h]; exact .inl (by decide)
  · by_cases k : sumOk s
    · by_cases hx : ∃ m, RtV m ∧ dumpV m = s
      · obtain ⟨m, hm, rfl⟩ := hx
        rw [load_dump hm]; exact .inr ⟨hm, rfl⟩
      · rw [load_none h k hx]; exact .inl (by decide)
    · rw [load_sum h k]; exact .inl (by decide)
theorem rt_came {m : Vl} (h : RtV m) : Came m := by
  have k := h.k
  refine ⟨?_, ?_, ?_, ?_, ?_, ?_, by omega, ?_, ?_⟩
  · by_cases k : m.kind = 2
    · have := (h.k2 k).1.2.2; simp at this; omega
    · rw [h.pairs k]; simp
  · by_cases k3 : m.kind = 3
    · have := (h.k3 k3).2.2; omega
    · by_cases k4 : m.kind = 4
      · have := (h.k4 k4).1.2.2; omega
      · rw [h.items k3 k4]; simp
  · by_cases k1 : m.kind = 1
    · have := h.k1 k1; omega
    · rw [h.text k1]; simp
  · intro x hx
    by_cases k : m.kind = 2
    · have := (h.k2 k).1.1 x hx; omega
    · rw [h.pairs k] at hx; cases hx
  · intro x hx
    by_cases k : m.kind = 2
    · have := (h.k2 k).2.2.1 x hx; omega
    · rw [h.pairs k] at hx; cases hx
  · intro x hx
    by_cases k3 : m.kind = 3
    · have := (h.k3 k3).1 x hx; omega
    · by_cases k4 : m.kind = 4
      · have := (h.k4 k4).1.1 x hx; omega
      · rw [h.items k3 k4] at hx; cases hx
  · by_cases k5 : m.kind = 5
    · have := h.k5 k5; unfold rtP at this; omega
    · rw [(h.point k5).1]; omega
  · by_cases k5 : m.kind = 5
    · have := h.k5 k5; unfold rtP at this; omega
    · rw [(h.point k5).2]; omega
set_option maxHeartbeats 2000000 in
set_option maxRecDepth 100000 in
theorem again_any {V : World → Prop} (M : MethV V) (s : Nm) (w : World) (hV : V w) (hs : s.length ≤ 140737488351232) :
    Calls Tryd.prog 3 #[.string ⟨s.toArray⟩] w fun e w' => e = .returned (.bool true) ∧ Below w.heap.size w w' := by
  have HM := hid M
  have HV := hid hV
  have H1 := hid (fun W h => HM.out.load s W h hs)
  have hcs := load_cases s
  generalize loadV s = P at *
  obtain ⟨m, z⟩ := P
  dsimp only at *
  by_cases hz : z = 0
  · subst hz
    obtain ⟨hm, hd⟩ : RtV m ∧ dumpV m = s := by
      rcases hcs with h | h
      · exact absurd rfl h
      · exact h
    have H2 := hid (fun pp pc' ip ic W h k => HM.out.dump m pp pc' ip ic W h (rt_came hm) k)
    rw [rightB_iff.2 hm, show dumpS m = s by rw [← hd]; exact if_pos (rightB_iff.2 hm)] at H2
    have hss : (s == s) = true := beq_iff_eq.2 rfl
    clear M hV hcs hm hd
    go_enter Tryd.func3, Tryd.ntmps3
    go_wp2_with fail
    refine (H1.out _ HV.out).mono ?_; rintro e w1 ⟨pp, pc', ip, ic, rfl, hh⟩
    have HX1 := hid (val_new w1 m pp pc' ip ic)
    have HI1 := hid (hh.out.1.below (below_alloc w1 (vob m pp pc' ip ic)))
    have HW1 := hid (hh.out.2.trans ((below_alloc w1 (vob m pp pc' ip ic)).mono hh.out.2.size))
    clear hh
    obtain ⟨c0, c1, c2, c3, c4, c5⟩ := val_facts HX1.out
    go_wp2_with fail
    refine (H2.out pp pc' ip ic _ (HM.out.env HV.out HW1.out) HI1.out).mono ?_; rintro e w2 ⟨rfl, hh⟩
    have HW2 := hid (HW1.out.trans (hh.out.mono HW1.out.size))
    clear hh
    go_wp2_with fail
    refine (alive_any HM.out _ (HM.out.env HV.out HW2.out)).mono ?_; rintro e w3 ⟨rfl, hh⟩
    have HW3 := hid (HW2.out.trans (hh.out.mono HW2.out.size))
    clear hh
    go_wp2_with fail
    go_ret
    exact ⟨rfl, HW3.out⟩
  · have hzb : (z == 0) = false := beq_eq_false_iff_ne.2 hz
    clear M hV hcs
    go_enter Tryd.func3, Tryd.ntmps3
    go_wp2_with fail
    refine (H1.out _ HV.out).mono ?_; rintro e w1 ⟨pp, pc', ip, ic, rfl, hh⟩
    have HW1 := hid (hh.out.2.trans ((below_alloc w1 (vob m pp pc' ip ic)).mono hh.out.2.size))
    clear hh
    go_wp2_with fail
    refine (alive_any HM.out _ (HM.out.env HV.out HW1.out)).mono ?_; rintro e w3 ⟨rfl, hh⟩
    have HW3 := hid (HW1.out.trans (hh.out.mono HW1.out.size))
    clear hh
    go_wp2_with fail
    go_ret
    exact ⟨rfl, HW3.out⟩
set_option maxHeartbeats 2000000 in
set_option maxRecDepth 100000 in
theorem unlike_any {V : World → Prop} (M : MethV V) (a : Vl) (pp : Option Addr) (pc' : Nat) (ip : Option Addr) (ic : Nat) (b : Vl) (pp2 : Option Addr) (pc2 : Nat) (ip2 : Option Addr) (ic2 : Nat) (w : World) (hV : V w) (hC : Came a) (hI : VI w a pp pc' ip ic) (hC2 : Came b) (hI2 : VI w b pp2 pc2 ip2 ic2) :
    Calls Tryd.prog 4 #[vv a pp pc' ip ic, vv b pp2 pc2 ip2 ic2] w fun e w' => e = .returned (.bool true) ∧ Below w.heap.size w w' := by
  have HM := hid M
  have HV := hid hV
  have HVI := hid hI
  have HVJ := hid hI2
  have HA := hid (al_two w (vob a pp pc' ip ic) (vob b pp2 pc2 ip2 ic2))
  obtain ⟨a0, a1, a2, a3, a4, a5⟩ := val_facts HA.out.2.1
  obtain ⟨b0, b1, b2, b3, b4, b5⟩ := val_facts HA.out.2.2.1
  have H1 := hid (fun W h k => HM.out.dump a pp pc' ip ic W h hC k)
  have H2 := hid (fun W h k => HM.out.dump b pp2 pc2 ip2 ic2 W h hC2 k)
  have H3 := hid (fun W h1 h2 => rsame_any a b pp pc' ip ic pp2 pc2 ip2 ic2 W h1 h2 hC.pairs hC.items)
  have key : rightB a = true → rightB b = true → ((dumpS a == dumpS b) == decide (a = b)) = true := fun h1 h2 => by
    rw [show dumpS a = dumpV a from if_pos h1, show dumpS b = dumpV b from if_pos h2]
    by_cases e : a = b
    · subst e; simp
    · have : dumpV a ≠ dumpV b := fun h => e (dump_inj (rightB_iff.1 h1) (rightB_iff.1 h2) h)
      simp [e, this]
  generalize dumpS a = DA at *
  generalize dumpS b = DB at *
  generalize decide (a = b) = SM at *
  generalize rightB a = RA at *
  generalize rightB b = RB at *
  clear M hV hI hI2
  go_enter Tryd.func4, Tryd.ntmps4
  go_wp2_with fail
  refine (H1.out _ (HM.out.env HV.out HA.out.1) (HVI.out.below HA.out.1)).mono ?_; rintro e w1 ⟨rfl, hh⟩
  have HX1 := hid ((hh.out.block w.heap.size (by simp; omega)).trans HA.out.2.1)
  have HY1 := hid ((hh.out.block (w.heap.size + 1) (by simp)).trans HA.out.2.2.1)
  have HW1 := hid (HA.out.1.trans (hh.out.mono HA.out.1.size))
  clear hh a0 a1 a2 a3 a4 a5 b0 b1 b2 b3 b4 b5
  obtain ⟨b0, b1, b2, b3, b4, b5⟩ := val_facts HY1.out
  go_wp2_with fail
  refine (H2.out _ (HM.out.env HV.out HW1.out) (HVJ.out.below HW1.out)).mono ?_; rintro e w2 ⟨rfl, hh⟩
  have HX2 := hid ((hh.out.block w.heap.size (Array.getElem?_eq_some_iff.1 HX1.out).1).trans HX1.out)
  have HY2 := hid ((hh.out.block (w.heap.size + 1) (Array.getElem?_eq_some_iff.1 HY1.out).1).trans HY1.out)
  have HW2 := hid (HW1.out.trans (hh.out.mono HW1.out.size))
  clear hh b0 b1 b2 b3 b4 b5
  go_wp2_with fail
  refine (alive_any HM.out _ (HM.out.env HV.out HW2.out)).mono ?_; rintro e w3 ⟨rfl, hh⟩
  have HX3 := hid ((hh.out.block w.heap.size (Array.getElem?_eq_some_iff.1 HX2.out).1).trans HX2.out)
  have HY3 := hid ((hh.out.block (w.heap.size + 1) (Array.getElem?_eq_some_iff.1 HY2.out).1).trans HY2.out)
  have HW3 := hid (HW2.out.trans (hh.out.mono HW2.out.size))
  clear hh
  obtain ⟨a0, a1, a2, a3, a4, a5⟩ := val_facts HX3.out
  obtain ⟨b0, b1, b2, b3, b4, b5⟩ := val_facts HY3.out
  cases RA with
  | false =>
    go_wp2_with fail
    go_ret
    exact ⟨rfl, HW3.out⟩
  | true =>
    cases RB with
    | false =>
      go_wp2_with fail
      go_ret
      exact ⟨rfl, HW3.out⟩
    | true =>
      have hk := key rfl rfl
      clear key
      go_wp2_with fail
      refine (H3.out _ (HVI.out.below HW3.out) (HVJ.out.below HW3.out)).mono ?_; rintro e w4 ⟨rfl, hh⟩
      have HW4 := hid (HW3.out.trans (hh.out.mono HW3.out.size))
      clear hh
      go_wp2_with fail
      go_ret
      first | exact ⟨rfl, HW4.out⟩ | (refine ⟨?_, HW4.out⟩; simp_all)

end Go.Proofs.YtmjmdfenkhmfbabDoor
