/- The law of a full row. -/
import Derived.Test.YtmlnjcmkengkhaaLawAll
namespace Go.Proofs.Ytmlnjcmkengkhaa
open Go.RowKit

/-- so many texts y -/
def ys (n : Nat) : Row := List.replicate n [121]
theorem ys_len (n : Nat) : (ys n).length = n := by simp [ys]
theorem ys_push (n : Nat) (f : Bool) (h : n < 256) : pushL (ys n) f [121] = ys (n + 1) := by
  unfold pushL
  rw [ys_len, if_neg (by omega)]
  cases f
  · simp [ys, List.replicate_succ']
  · simp [ys, List.replicate_succ]
theorem ys_yes (n : Nat) (h : n < 256) : pushB (ys n) = true := decide_eq_true (by rw [ys_len]; exact h)
theorem ys_no : pushB (ys 256) = false := decide_eq_false (by rw [ys_len]; decide)
theorem ys_full (f : Bool) (s : List UInt8) : pushL (ys 256) f s = ys 256 := by
  unfold pushL
  rw [ys_len, if_pos (by decide)]
set_option maxHeartbeats 2000000 in
set_option maxRecDepth 100000 in
theorem full_any {Dq : World → Nat → Row → Prop} (M : Meth Dq) (t : Int) (f : Bool) (w : World) (t0 : -9223372036854775808 ≤ t) (t1 : t ≤ 9223372036854775807) :
    Calls Try.prog 6 #[.int .i64 t, .bool f] w fun e w' => e = .returned (.bool true) ∧ Below w.heap.size w w' := by
  have HM := hid M
  have HN := hid (M.new w)
  clear M
  by_cases hbig : t < 0 ∨ 1000 < t
  · rcases (show t < 0 ∨ (¬ t < 0 ∧ 1000 < t) by omega) with hz | ⟨hz, hz'⟩
    all_goals
      clear hbig
      go_enter Try.func6, Try.ntmps6
      go_wp2_with fail
      refine HN.out.mono ?_; rintro e w1 ⟨b, rfl, hh⟩
      have H1 := hid hh.out
      clear hh
      go_wp2_with fail
      refine (alive_any HM.out _).mono ?_; rintro e w2 ⟨rfl, hb2⟩
      have HB := hid (H1.out.2.2.trans (hb2.out.mono H1.out.2.2.size))
      clear hb2
      go_wp2_with fail
      go_ret
      exact ⟨rfl, HB.out⟩
  · have hz : ¬ t < 0 := by omega
    have hz' : ¬ 1000 < t := by omega
    have e1 : pushL [] true [120] = [[120]] := by simp [pushL]
    have e2 : popL [[120]] false = [] := by simp [popL]
    clear hbig
    go_enter Try.func6, Try.ntmps6
    go_wp2_with fail
    refine HN.out.mono ?_; rintro e w1 ⟨b, rfl, hh⟩
    have H1 := hid hh.out
    clear hh
    go_wp2_with fail
    go_loopw [24] (fun v24 W => ∃ i : Int, v24 = .int .i64 i ∧ 0 ≤ i ∧ i ≤ t ∧ Hid (Dq W b []) ∧ Hid (Below w.heap.size w W)) (fun v24 _ => (t - intOf v24).toNat)
    case atStart => exact ⟨0, rfl, by decide, by omega, H1.out.2.1, H1.out.2.2⟩
    case round =>
      obtain ⟨i, rfl, hi0, hi1, HDi, HBi⟩ := hrel
      by_cases hlt : i < t
      · have HP1 := hid (HM.out.push b [] true [120] _ HDi.out)
        have HP2 := hid fun w' h => HM.out.pop b [[120]] false w' h
        rw [e1] at HP1
        rw [e2] at HP2
        clear e1 e2
        go_wp2_with fail
        refine HP1.out.mono ?_; rintro e w2 ⟨rfl, hh⟩
        have H2 := hid hh.out
        have K2 := hid (Keep.end HBi.out hh.out.2 H1.out.1 HBi.out.size)
        clear hh
        go_wp2_with fail
        refine (HP2.out _ H2.out.1).mono ?_; rintro e w3 ⟨rfl, hh⟩
        have H3 := hid hh.out
        have K3 := hid (Keep.end K2.out hh.out.2 H1.out.1 K2.out.size)
        clear hh
        go_wp2_with fail
        exact ⟨⟨i + 1, by go_num, by omega, by omega, H3.out.1, K3.out⟩, by simp [intOf]; omega⟩
      · clear e1 e2
        go_wp2_with fail
        go_loopw [6, 31] (fun _ v31 W => ∃ i : Nat, v31 = .int .i64 i ∧ i ≤ 256 ∧ Hid (Dq W b (ys i)) ∧ Hid (Below w.heap.size w W)) (fun _ v31 _ => 256 - (intOf v31).toNat)
        case atStart => exact ⟨0, rfl, by decide, HDi.out, HBi.out⟩
        case round =>
          obtain ⟨k, rfl, hk, HDk, HBk⟩ := hrel
          by_cases hlt2 : k < 256
          · have hkz : (k : Int) < 256 := by omega
            have HP1 := hid (HM.out.push b (ys k) f [121] _ HDk.out)
            rw [ys_push k f hlt2, ys_yes k hlt2] at HP1
            have HL := hid fun w' h => HM.out.length b (ys (k + 1)) w' h
            rw [ys_len] at HL
            have hk1 : ((k + 1 : Nat) : Int) = (k : Int) + 1 := by omega
            rw [hk1] at HL
            clear hk1
            go_wp2_with fail
            refine HP1.out.mono ?_; rintro e w2 ⟨rfl, hh⟩
            have H2 := hid hh.out
            have K2 := hid (Keep.end HBk.out hh.out.2 H1.out.1 HBk.out.size)
            clear hh
            go_wp2_with fail
            refine (HL.out _ H2.out.1).mono ?_; rintro e w3 ⟨rfl, hh⟩
            have H3 := hid hh.out
            have K3 := hid (Keep.end K2.out hh.out.2 H1.out.1 K2.out.size)
            clear hh
            go_wp2_with fail
            exact ⟨⟨k + 1, by go_num, by omega, H3.out.1, K3.out⟩, by simp [intOf]; omega⟩
          · obtain rfl : k = 256 := by omega
            have HP1 := hid fun w' h => HM.out.push b (ys 256) f [122] w' h
            have HP2 := hid fun w' h => HM.out.push b (ys 256) (!f) [122] w' h
            rw [ys_full, ys_no] at HP1 HP2
            have HL := hid fun w' h => HM.out.length b (ys 256) w' h
            rw [ys_len] at HL
            go_wp2_with fail
            refine (alive_any HM.out _).mono ?_; rintro e w2 ⟨rfl, hb2⟩
            have HD2 := hid (HM.out.below HDk.out hb2.out)
            have K2 := hid (HBk.out.trans (hb2.out.mono HBk.out.size))
            clear hb2
            go_wp2_with fail
            refine (HP1.out _ HD2.out).mono ?_; rintro e w3 ⟨rfl, hh⟩
            have H3 := hid hh.out
            have K3 := hid (Keep.end K2.out hh.out.2 H1.out.1 K2.out.size)
            clear hh
            go_wp2_with fail
            refine (HP2.out _ H3.out.1).mono ?_; rintro e w4 ⟨rfl, hh⟩
            have H4 := hid hh.out
            have K4 := hid (Keep.end K3.out hh.out.2 H1.out.1 K3.out.size)
            clear hh
            go_wp2_with fail
            refine (HL.out _ H4.out.1).mono ?_; rintro e w5 ⟨rfl, hh⟩
            have K5 := hid (Keep.end K4.out hh.out.2 H1.out.1 K4.out.size)
            clear hh
            go_wp2_with fail
            go_ret
            exact ⟨rfl, K5.out⟩

end Go.Proofs.Ytmlnjcmkengkhaa
