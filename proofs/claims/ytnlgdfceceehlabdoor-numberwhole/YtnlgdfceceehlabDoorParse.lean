/- A text read as a number: Parse. -/
import Derived.Test.YtnlgdfceceehlabDoorNegated
import Derived.Test.YtnlgdfceceehlabDoorBase
namespace Go.Proofs.YtnlgdfceceehlabDoor
open Go.RowKit

theorem has_minus (l : List UInt8) : Lib.hasPrefix l [45] = neg l := by
  unfold Lib.hasPrefix neg
  cases l with
  | nil => rfl
  | cons b l =>
    by_cases h : b = 45
    · subst h; rfl
    · have h1 : ((45 : UInt8) == b) = false := beq_eq_false_iff_ne.2 fun e => h e.symm
      have h2 : ((some b : Option UInt8) == some 45) = false := beq_eq_false_iff_ne.2 fun e => h (Option.some.inj e)
      rw [List.head?_cons, h2]
      simp only [List.isPrefixOf, h1, Bool.false_and]
theorem trim_minus (l : List UInt8) : Lib.trimPrefix l [45] = digs l := by
  unfold Lib.trimPrefix digs
  rw [has_minus]
  cases neg l
  · rfl
  · simp
theorem cut_any (l : List UInt8) (w : World) :
    Calls Tryd.prog 9 #[.string ⟨l.toArray⟩, .string ⟨#[45]⟩] w fun e w' => e = .returned (.tuple #[.string ⟨(digs l).toArray⟩, .bool (neg l)]) ∧ w' = w := by
  refine (Tryd.strings_CutPrefix ⟨l.toArray⟩ ⟨#[45]⟩ w).mono ?_
  rintro e w' ⟨rfl, rfl⟩
  refine ⟨?_, rfl⟩
  show Ending.returned (.tuple #[.string ⟨(Lib.trimPrefix l [45]).toArray⟩, .bool (Lib.hasPrefix l [45])]) = _
  rw [has_minus, trim_minus]
theorem tell_bad {l : List UInt8} (h : formed l = false) : tellV l = 0 ∧ tellE l = 50 := by simp [tellV, tellE, h]
theorem tell_over {l : List UInt8} (h : formed l = true) (hf : fits l = false) : tellV l = 0 ∧ tellE l = 51 := by simp [tellV, tellE, h, hf]
theorem tell_ok {l : List UInt8} (h : formed l = true) (hf : fits l = true) : tellV l = num l ∧ tellE l = 0 := by simp [tellV, tellE, h, hf]
set_option maxHeartbeats 2000000 in
set_option maxRecDepth 100000 in
/-- Parse -/
theorem parse_any (l : List UInt8) (w : World) :
    Calls Tryd.prog 7 #[.string ⟨l.toArray⟩] w fun e w' => e = .returned (.tuple #[.int .i64 (tellV l), .int .i64 (tellE l)]) ∧ Hid (Below w.heap.size w w') := by
  have HC := hid (cut_any l w)
  have HN := hid (isNumber_any (digs l) (neg l) w)
  rw [numOk_formed] at HN
  cases hF : formed l
  · rw [(tell_bad hF).1, (tell_bad hF).2]
    rw [hF] at HN
    generalize digs l = d at *
    clear hF
    go_enter Tryd.func7, Tryd.ntmps7
    go_wp2_with fail
    refine HC.out.mono ?_; rintro e w1 ⟨rfl, rfl⟩
    go_wp2_with fail
    refine HN.out.mono ?_; rintro e w2 ⟨rfl, hb2⟩
    go_wp2_with fail
    go_ret2
    exact ⟨rfl, hb2.out⟩
  · rw [hF] at HN
    have HG := hid (fun w => negated_any (digs l) (formed_parts hF).1 w)
    have hng : ngV (digs l) = if val (digs l) ≤ 9223372036854775808 then -(val (digs l) : Int) else 0 := rfl
    have hnb : ngB (digs l) = decide (val (digs l) ≤ 9223372036854775808) := rfl
    have hft : fits l = if neg l then decide (val (digs l) ≤ 9223372036854775808) else decide (val (digs l) ≤ 9223372036854775807) := rfl
    have hnm : num l = if neg l then -(val (digs l) : Int) else val (digs l) := rfl
    obtain ⟨tv, htv⟩ : ∃ t, t = tellV l := ⟨_, rfl⟩
    obtain ⟨te, hte⟩ : ∃ t, t = tellE l := ⟨_, rfl⟩
    have HO := hid (fun h => tell_over hF h)
    have HK := hid (fun h => tell_ok hF h)
    rw [← htv, ← hte] at HO HK ⊢
    clear hF htv hte
    generalize ngV (digs l) = G at *
    generalize ngB (digs l) = B at *
    generalize val (digs l) = v at *
    generalize digs l = d at *
    generalize fits l = FT at *
    generalize num l = NM at *
    cases hneg : neg l
    · rw [hneg] at hft hnm HC HN
      simp only [Bool.false_eq_true, if_false] at hft hnm
      by_cases h1 : v ≤ 9223372036854775807
      · rw [if_pos (by omega)] at hng
        rw [decide_eq_true (by omega)] at hnb
        rw [decide_eq_true h1] at hft
        obtain ⟨rfl, rfl⟩ := HK.out hft
        subst hnb
        have hG : -G = tv := by omega
        have hg0 : -9223372036854775807 ≤ G := by omega
        have hg1 : G ≤ 0 := by omega
        have hge : (G == -9223372036854775808) = false := beq_eq_false_iff_ne.2 (by omega)
        clear hng hft hnm HO HK h1
        go_enter Tryd.func7, Tryd.ntmps7
        go_wp2_with fail
        refine HC.out.mono ?_; rintro e w1 ⟨rfl, rfl⟩
        go_wp2_with fail
        refine HN.out.mono ?_; rintro e w2 ⟨rfl, hb2⟩
        go_wp2_with fail
        refine (HG.out _).mono ?_; rintro e w3 ⟨rfl, hb3⟩
        have HB := hid (hb2.out.trans (hb3.out.mono hb2.out.size))
        clear hb2 hb3
        go_wp2_with fail
        go_ret2
        exact ⟨rfl, HB.out⟩
      · rw [decide_eq_false h1] at hft
        obtain ⟨rfl, rfl⟩ := HO.out hft
        by_cases h2 : v ≤ 9223372036854775808
        · rw [if_pos h2] at hng
          rw [decide_eq_true h2] at hnb
          obtain rfl : G = -9223372036854775808 := by omega
          subst hnb
          clear hng hft hnm HO HK h1 h2
          go_enter Tryd.func7, Tryd.ntmps7
          go_wp2_with fail
          refine HC.out.mono ?_; rintro e w1 ⟨rfl, rfl⟩
          go_wp2_with fail
          refine HN.out.mono ?_; rintro e w2 ⟨rfl, hb2⟩
          go_wp2_with fail
          refine (HG.out _).mono ?_; rintro e w3 ⟨rfl, hb3⟩
          have HB := hid (hb2.out.trans (hb3.out.mono hb2.out.size))
          clear hb2 hb3
          go_wp2_with fail
          go_ret2
          exact ⟨rfl, HB.out⟩
        · rw [if_neg h2] at hng
          rw [decide_eq_false h2] at hnb
          subst hnb hng
          clear hft hnm HO HK h1 h2
          go_enter Tryd.func7, Tryd.ntmps7
          go_wp2_with fail
          refine HC.out.mono ?_; rintro e w1 ⟨rfl, rfl⟩
          go_wp2_with fail
          refine HN.out.mono ?_; rintro e w2 ⟨rfl, hb2⟩
          go_wp2_with fail
          refine (HG.out _).mono ?_; rintro e w3 ⟨rfl, hb3⟩
          have HB := hid (hb2.out.trans (hb3.out.mono hb2.out.size))
          clear hb2 hb3
          go_wp2_with fail
          go_ret2
          exact ⟨rfl, HB.out⟩
    · rw [hneg] at hft hnm HC HN
      simp only [if_true] at hft hnm
      by_cases h1 : v ≤ 9223372036854775808
      · rw [if_pos h1] at hng
        rw [decide_eq_true h1] at hnb hft
        obtain ⟨rfl, rfl⟩ := HK.out hft
        obtain rfl : G = tv := by omega
        subst hnb
        have hg0 : -9223372036854775808 ≤ G := by omega
        have hg1 : G ≤ 0 := by omega
        clear hng hft hnm HO HK h1
        by_cases hm : G = -9223372036854775808
        · subst hm
          clear hg0 hg1
          go_enter Tryd.func7, Tryd.ntmps7
          go_wp2_with fail
          refine HC.out.mono ?_; rintro e w1 ⟨rfl, rfl⟩
          go_wp2_with fail
          refine HN.out.mono ?_; rintro e w2 ⟨rfl, hb2⟩
          go_wp2_with fail
          refine (HG.out _).mono ?_; rintro e w3 ⟨rfl, hb3⟩
          have HB := hid (hb2.out.trans (hb3.out.mono hb2.out.size))
          clear hb2 hb3
          go_wp2_with fail
          go_ret2
          exact ⟨rfl, HB.out⟩
        · have hge : (G == -9223372036854775808) = false := beq_eq_false_iff_ne.2 hm
          clear hm
          go_enter Tryd.func7, Tryd.ntmps7
          go_wp2_with fail
          refine HC.out.mono ?_; rintro e w1 ⟨rfl, rfl⟩
          go_wp2_with fail
          refine HN.out.mono ?_; rintro e w2 ⟨rfl, hb2⟩
          go_wp2_with fail
          refine (HG.out _).mono ?_; rintro e w3 ⟨rfl, hb3⟩
          have HB := hid (hb2.out.trans (hb3.out.mono hb2.out.size))
          clear hb2 hb3
          go_wp2_with fail
          go_ret2
          exact ⟨rfl, HB.out⟩
      · rw [if_neg h1] at hng
        rw [decide_eq_false h1] at hnb hft
        obtain ⟨rfl, rfl⟩ := HO.out hft
        subst hnb hng
        clear hft hnm HO HK h1
        go_enter Tryd.func7, Tryd.ntmps7
        go_wp2_with fail
        refine HC.out.mono ?_; rintro e w1 ⟨rfl, rfl⟩
        go_wp2_with fail
        refine HN.out.mono ?_; rintro e w2 ⟨rfl, hb2⟩
        go_wp2_with fail
        refine (HG.out _).mono ?_; rintro e w3 ⟨rfl, hb3⟩
        have HB := hid (hb2.out.trans (hb3.out.mono hb2.out.size))
        clear hb2 hb3
        go_wp2_with fail
        go_ret2
        exact ⟨rfl, HB.out⟩

end Go.Proofs.YtnlgdfceceehlabDoor
