/- The law of trims. -/
import Derived.Test.YtmlnjcmkengkhaaLawAll
namespace Go.Proofs.Ytmlnjcmkengkhaa
open Go.RowKit

set_option maxHeartbeats 2000000 in
set_option maxRecDepth 100000 in
theorem trims_any {Dq : World → Nat → Row → Prop} (M : Meth Dq) (p : Option Addr) (ops : List OpL) (cp : Nat) (f t : Int) (w : World) (hO : Ops (Old w) w p ops) (hF : ∀ o ∈ ops, OpFit o) (hn : ops.length ≤ 9223372036854775807)
    (f0 : -9223372036854775808 ≤ f) (f1 : f ≤ 9223372036854775807) (t0 : -9223372036854775808 ≤ t) (t1 : t ≤ 9223372036854775807) :
    Calls Try.prog 8 #[.slice p ops.length cp, .int .i64 f, .int .i64 t] w fun e w' => e = .returned (.bool true) ∧ Below w.heap.size w w' := by
  have HM := hid M
  have HN := hid (M.new w)
  have HO := hid hO
  have HF := hid hF
  clear M hO hF
  by_cases hbig : 1000 < ops.length
  · have hz : (1000 : Int) < (ops.length : Int) := by omega
    go_enter Try.func8, Try.ntmps8
    go_wp2_with fail
    refine HN.out.mono ?_; rintro e w1 ⟨b, rfl, hh⟩
    have H1 := hid hh.out
    clear hh
    go_wp2_with fail
    refine (alive_any HM.out _).mono ?_; rintro e w2 ⟨rfl, hb2⟩
    have HB := hid (H1.out.2.2.trans (hb2.out.mono H1.out.2.2.size))
    clear hb2
    go_wp2_with fail
    go_ret
    exact ⟨rfl, HB.out⟩
  · have hz : ¬ (1000 : Int) < (ops.length : Int) := by omega
    have HL := hid (runL_len ops [] (by decide))
    go_enter Try.func8, Try.ntmps8
    go_wp2_with fail
    refine HN.out.mono ?_; rintro e w1 ⟨b, rfl, hh⟩
    have H1 := hid hh.out
    clear hh
    go_wp2_with fail
    refine (plays_any HM.out (But b) b [] _ p ops cp w1 H1.out.2.1 (Tl.nil _ _) (HO.out.later H1.out.2.2 H1.out.1) HF.out (by omega) (old_but (HM.out.lt H1.out.2.1)) (fun _ h => h)).mono ?_
    rintro e w2 ⟨q, c, rfl, hh⟩
    have H2 := hid hh.out
    have K2 := hid (Keep.end H1.out.2.2 hh.out.2.2 H1.out.1 H1.out.2.2.size)
    clear hh
    generalize runL [] ops = R at *
    go_wp2_with fail
    refine (HM.out.range b R f t w2 H2.out.2.1 f0 f1 t0 t1).mono ?_
    have HRL := hid (rangeL_le R f t)
    generalize hS : rangeL R f t = S at *
    have HS := hid hS
    clear hS
    rintro e w3 ⟨p3, c3, rfl, hh⟩
    have H3 := hid hh.out
    have K3 := hid (Keep.end K2.out hh.out.2.2 H1.out.1 K2.out.size)
    have HT3 := hid (hh.out.1.mono (Q := But b) (old_but (HM.out.lt H2.out.2.1)))
    clear hh
    go_wp2_with fail
    refine (HM.out.trim b R f t w3 H3.out.2.1 f0 f1 t0 t1).mono ?_
    rintro e w4 ⟨rfl, hh⟩
    have H4 := hid hh.out
    rw [HS.out] at H4
    have K4 := hid (Keep.end K3.out hh.out.2 H1.out.1 K3.out.size)
    have HT4 := hid (HT3.out.keep (Q := But b) hh.out.2 (fun _ h => h))
    clear hh
    go_wp2_with fail
    refine (alive_any HM.out _).mono ?_; rintro e w5 ⟨rfl, hb5⟩
    have H5 := hid hb5.out
    have K5 := hid (K4.out.trans (hb5.out.mono K4.out.size))
    clear hb5
    go_wp2_with fail
    refine (HM.out.range b S 0 (-1) w5 (HM.out.below H4.out.1 H5.out) (by decide) (by decide) (by decide) (by decide)).mono ?_
    rw [rangeL_all]
    rintro e w6 ⟨p6, c6, rfl, hh⟩
    have H6 := hid hh.out
    have K6 := hid (Keep.end K5.out hh.out.2.2 H1.out.1 K5.out.size)
    have HT6 := hid ((HT4.out.below H5.out).keep (Q := But b) hh.out.2.2 (fun _ h => h))
    clear hh
    go_wp2_with fail
    refine (same_any _ _ _ _ S S _ H6.out.1 HT6.out (by have := HL.out; have := HRL.out; omega)).mono ?_
    rintro e w7 ⟨rfl, hb7⟩
    have H7 := hid hb7.out
    have K7 := hid (K6.out.trans (hb7.out.mono K6.out.size))
    have hdt : decide (S = S) = true := by simp
    rw [hdt]
    clear hb7 hdt
    go_wp2_with fail
    refine (HM.out.length b S w7 (HM.out.below H6.out.2.1 H7.out)).mono ?_
    rintro e w8 ⟨rfl, hh⟩
    have K8 := hid (Keep.end K7.out hh.out.2 H1.out.1 K7.out.size)
    clear hh
    go_wp2_with fail
    go_ret
    exact ⟨rfl, K8.out⟩

end Go.Proofs.Ytmlnjcmkengkhaa
