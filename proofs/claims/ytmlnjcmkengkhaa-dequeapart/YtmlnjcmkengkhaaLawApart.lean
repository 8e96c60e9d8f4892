/- The law of clones. -/
import Derived.Test.YtmlnjcmkengkhaaLawAll
namespace Go.Proofs.Ytmlnjcmkengkhaa
open Go.RowKit

set_option maxHeartbeats 2000000 in
set_option maxRecDepth 100000 in
theorem apart_any {Dq : World → Nat → Row → Prop} (M : Meth Dq) (p : Option Addr) (ops : List OpL) (cp : Nat) (p' : Option Addr) (more : List OpL) (cp' : Nat) (w : World) (hO : Ops (Old w) w p ops) (hF : ∀ o ∈ ops, OpFit o) (hn : ops.length ≤ 9223372036854775807)
    (hO' : Ops (Old w) w p' more) (hF' : ∀ o ∈ more, OpFit o) (hn' : more.length ≤ 9223372036854775807) :
    Calls Try.prog 4 #[.slice p ops.length cp, .slice p' more.length cp'] w fun e w' => e = .returned (.bool true) ∧ Below w.heap.size w w' := by
  have HM := hid M
  have HN := hid (M.new w)
  have HO := hid hO
  have HF := hid hF
  have HO' := hid hO'
  have HF' := hid hF'
  clear M hO hF hO' hF'
  by_cases hbig : 1000 < ops.length ∨ 1000 < more.length
  · rcases (show (1000 : Int) < (ops.length : Int) ∨ (¬ (1000 : Int) < (ops.length : Int) ∧ (1000 : Int) < (more.length : Int)) by omega) with hz | ⟨hz, hz'⟩
    all_goals
      clear hbig
      go_enter Try.func4, Try.ntmps4
      go_wp2_with fail
      refine HN.out.mono ?_; rintro e w1 ⟨b, rfl, hh⟩
      have H1 := hid hh.out
      clear hh
      go_wp2_with fail
      refine (alive_any HM.out _).mono ?_; rintro e w2 ⟨rfl, hb2⟩
      have HB := hid (H1.out.2.2.trans (hb2.out.mono H1.out.2.2.size))
      clear hb2
      go_wp2_with fail
      go_ret
      exact ⟨rfl, HB.out⟩
  · have hz : ¬ (1000 : Int) < (ops.length : Int) := by omega
    have hz' : ¬ (1000 : Int) < (more.length : Int) := by omega
    have HL := hid (runL_len ops [] (by decide))
    have HL2 := hid (runL_len more _ HL.out)
    clear hbig
    go_enter Try.func4, Try.ntmps4
    go_wp2_with fail
    refine HN.out.mono ?_; rintro e w1 ⟨b, rfl, hh⟩
    have H1 := hid hh.out
    clear hh
    go_wp2_with fail
    refine (plays_any HM.out (But b) b [] _ p ops cp w1 H1.out.2.1 (Tl.nil _ _) (HO.out.later H1.out.2.2 H1.out.1) HF.out (by omega) (old_but (HM.out.lt H1.out.2.1)) (fun _ h => h)).mono ?_
    rintro e w2 ⟨q, c, rfl, hh⟩
    have H2 := hid hh.out
    have K2 := hid (Keep.end H1.out.2.2 hh.out.2.2 H1.out.1 H1.out.2.2.size)
    clear hh
    generalize runL [] ops = R at *
    go_wp2_with fail
    refine (HM.out.clone b R w2 H2.out.2.1).mono ?_
    rintro e w3 ⟨d, rfl, hh⟩
    have H3 := hid hh.out
    have K3 := hid (K2.out.trans (hh.out.2.2.mono K2.out.size))
    have hwd : w.heap.size ≤ d := Nat.le_trans K2.out.size hh.out.1
    have hbd : b ≠ d := by have := HM.out.lt H2.out.2.1; have := hh.out.1; omega
    obtain ⟨Q, hQ⟩ : ∃ Q : Nat → Prop, Q = fun k => k ≠ b ∧ k ≠ d := ⟨_, rfl⟩
    have HQb : Hid (∀ k, Q k → k ≠ b) := fun k hk => by rw [hQ] at hk; exact hk.1
    have HQd : Hid (∀ k, Q k → k ≠ d) := fun k hk => by rw [hQ] at hk; exact hk.2
    have HQn : Hid (∀ n, b < n → d < n → ∀ k, n ≤ k → Q k) := fun n h1 h2 k hk => by rw [hQ]; exact ⟨by omega, by omega⟩
    have HT3 : Hid (Tl Q w3 (.slice q R.length c) R) := (H2.out.1.fresh.below hh.out.2.2).mono (fun k hk => by
      rw [hQ]
      have := hk.2
      have := hh.out.1
      exact ⟨hk.1, by omega⟩)
    have hb3 : b < w3.heap.size := Nat.lt_of_lt_of_le (HM.out.lt H2.out.2.1) hh.out.2.2.size
    have HDb3 := hid (HM.out.below H2.out.2.1 hh.out.2.2)
    clear hh hQ
    go_wp2_with fail
    refine (plays_any HM.out Q d R _ p' more cp' w3 H3.out.2.1 HT3.out (HO'.out.later K3.out hwd) HF'.out (by omega) (HQn.out _ hb3 (HM.out.lt H3.out.2.1)) HQd.out).mono ?_
    rintro e w4 ⟨q4, c4, rfl, hh⟩
    have H4 := hid hh.out
    have K4 := hid (Keep.end K3.out hh.out.2.2 hwd K3.out.size)
    have HT4 := hid (HT3.out.keep (Q := Q) (hh.out.2.2.mono HQd.out) (fun _ h => h))
    have HDb4 := hid (HM.out.keep HDb3.out hh.out.2.2 hbd)
    clear hh
    generalize hS : runL R more = S at *
    have HS := hid hS
    clear hS
    go_wp2_with fail
    refine (HM.out.range b R 0 (-1) w4 HDb4.out (by decide) (by decide) (by decide) (by decide)).mono ?_
    rw [rangeL_all]
    rintro e w5 ⟨p5, c5, rfl, hh⟩
    have H5 := hid hh.out
    have K5 := hid (Keep.end K4.out hh.out.2.2 H1.out.1 K4.out.size)
    have HT5 := hid (HT4.out.keep (Q := Q) (hh.out.2.2.mono HQb.out) (fun _ h => h))
    have HM5 := hid (H4.out.1.keep (Q := Q) (hh.out.2.2.mono HQb.out) (fun _ h => h))
    have HDd5 := hid (HM.out.keep H4.out.2.1 hh.out.2.2 hbd.symm)
    clear hh
    go_wp2_with fail
    refine (same_any _ _ _ _ R R _ H5.out.1 HT5.out (by have := HL.out; omega)).mono ?_
    rintro e w6 ⟨rfl, hb6⟩
    have hdt : decide (R = R) = true := by simp
    rw [hdt]
    have K6 := hid (K5.out.trans (hb6.out.mono K5.out.size))
    have HT6 := hid (HT5.out.below hb6.out)
    have HM6 := hid (HM5.out.below hb6.out)
    have HDd6 := hid (HM.out.below HDd5.out hb6.out)
    have HDb6 := hid (HM.out.below H5.out.2.1 hb6.out)
    clear hb6 hdt
    go_wp2_with fail
    refine (plays_any HM.out Q b R _ p' more cp' w6 HDb6.out HT6.out (HO'.out.later K6.out H1.out.1) HF'.out (by omega) (HQn.out _ (HM.out.lt HDb6.out) (HM.out.lt HDd6.out)) HQb.out).mono ?_
    rw [HS.out]
    rintro e w7 ⟨q7, c7, rfl, hh⟩
    have H7 := hid hh.out
    have K7 := hid (Keep.end K6.out hh.out.2.2 H1.out.1 K6.out.size)
    have HM7 := hid (HM6.out.keep (Q := Q) (hh.out.2.2.mono HQb.out) (fun _ h => h))
    have HDd7 := hid (HM.out.keep HDd6.out hh.out.2.2 hbd.symm)
    clear hh
    go_wp2_with fail
    refine (alive_any HM.out _).mono ?_; rintro e w8 ⟨rfl, hb8⟩
    have K8 := hid (K7.out.trans (hb8.out.mono K7.out.size))
    have HM8 := hid (HM7.out.below hb8.out)
    have HN8 := hid (H7.out.1.below hb8.out)
    have HDd8 := hid (HM.out.below HDd7.out hb8.out)
    have HDb8 := hid (HM.out.below H7.out.2.1 hb8.out)
    clear hb8
    go_wp2_with fail
    refine (HM.out.range d S 0 (-1) w8 HDd8.out (by decide) (by decide) (by decide) (by decide)).mono ?_
    rw [rangeL_all]
    rintro e w9 ⟨p9, c9, rfl, hh⟩
    have H9 := hid hh.out
    have K9 := hid (Keep.end K8.out hh.out.2.2 hwd K8.out.size)
    have HM9 := hid (HM8.out.keep (Q := Q) (hh.out.2.2.mono HQd.out) (fun _ h => h))
    have HN9 := hid (HN8.out.keep (Q := Q) (hh.out.2.2.mono HQd.out) (fun _ h => h))
    have HDb9 := hid (HM.out.keep HDb8.out hh.out.2.2 hbd)
    clear hh
    go_wp2_with fail
    refine (same_any _ _ _ _ S S _ H9.out.1 HM9.out (by have := HL2.out; omega)).mono ?_
    rintro e w10 ⟨rfl, hb10⟩
    have hdt : decide (S = S) = true := by simp
    rw [hdt]
    have K10 := hid (K9.out.trans (hb10.out.mono K9.out.size))
    have HN10 := hid (HN9.out.below hb10.out)
    have HDb10 := hid (HM.out.below HDb9.out hb10.out)
    clear hb10 hdt
    go_wp2_with fail
    refine (HM.out.range b S 0 (-1) w10 HDb10.out (by decide) (by decide) (by decide) (by decide)).mono ?_
    rw [rangeL_all]
    rintro e w11 ⟨p11, c11, rfl, hh⟩
    have H11 := hid hh.out
    have K11 := hid (Keep.end K10.out hh.out.2.2 H1.out.1 K10.out.size)
    have HN11 := hid (HN10.out.keep (Q := Q) (hh.out.2.2.mono HQb.out) (fun _ h => h))
    clear hh
    go_wp2_with fail
    refine (same_any _ _ _ _ S S _ H11.out.1 HN11.out (by have := HL2.out; omega)).mono ?_
    rintro e w12 ⟨rfl, hb12⟩
    have hdt : decide (S = S) = true := by simp
    rw [hdt]
    have K12 := hid (K11.out.trans (hb12.out.mono K11.out.size))
    clear hb12 hdt
    go_wp2_with fail
    go_ret
    exact ⟨rfl, K12.out⟩

end Go.Proofs.Ytmlnjcmkengkhaa
