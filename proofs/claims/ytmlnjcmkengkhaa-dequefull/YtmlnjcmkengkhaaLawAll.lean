/- The law of scripts. -/
import Derived.Test.YtmlnjcmkengkhaaAlive
namespace Go.Proofs.Ytmlnjcmkengkhaa
open Go.RowKit

/-- the blocks that were there -/
abbrev Old (w : World) : Nat → Prop := fun k => k < w.heap.size
theorem Ops.later {w w' : World} {p : Option Addr} {l : List OpL} {b : Nat} (h : Ops (Old w) w p l) (k : Below w.heap.size w w') (hb : w.heap.size ≤ b) : Ops (But b) w' p l :=
  h.keep (Keep.of_below k) (fun i hi => by show i ≠ b; have : i < w.heap.size := hi; omega)
theorem old_but {w : World} {b : Nat} (hb : b < w.heap.size) : ∀ k, w.heap.size ≤ k → But b k := fun k hk => by show k ≠ b; omega
set_option maxHeartbeats 2000000 in
set_option maxRecDepth 100000 in
theorem all_any {Dq : World → Nat → Row → Prop} (M : Meth Dq) (p : Option Addr) (ops : List OpL) (cp : Nat) (w : World) (hO : Ops (Old w) w p ops) (hF : ∀ o ∈ ops, OpFit o) (hn : ops.length ≤ 9223372036854775807) :
    Calls Try.prog 3 #[.slice p ops.length cp] w fun e w' => e = .returned (.bool true) ∧ Below w.heap.size w w' := by
  have HM := hid M
  have HN := hid (M.new w)
  have HO := hid hO
  have HF := hid hF
  clear M hO hF
  by_cases hbig : 2000 < ops.length
  · have hz : (2000 : Int) < (ops.length : Int) := by omega
    go_enter Try.func3, Try.ntmps3
    go_wp2_with fail
    refine HN.out.mono ?_; rintro e w1 ⟨b, rfl, hh⟩
    have H1 := hid hh.out
    clear hh
    go_wp2_with fail
    refine (alive_any HM.out _).mono ?_; rintro e w2 ⟨rfl, hb2⟩
    have HB := hid (H1.out.2.2.trans (hb2.out.mono H1.out.2.2.size))
    clear hb2
    go_wp2_with fail
    go_ret
    exact ⟨rfl, HB.out⟩
  · have hz : ¬ (2000 : Int) < (ops.length : Int) := by omega
    have HL := hid (runL_len ops [] (by decide))
    go_enter Try.func3, Try.ntmps3
    go_wp2_with fail
    refine HN.out.mono ?_; rintro e w1 ⟨b, rfl, hh⟩
    have H1 := hid hh.out
    clear hh
    go_wp2_with fail
    refine (plays_any HM.out (But b) b [] _ p ops cp w1 H1.out.2.1 (Tl.nil _ _) (HO.out.later H1.out.2.2 H1.out.1) HF.out (by omega) (old_but (HM.out.lt H1.out.2.1)) (fun _ h => h)).mono ?_
    rintro e w2 ⟨q, c, rfl, hh⟩
    have H2 := hid hh.out
    have K2 := hid (Keep.end H1.out.2.2 hh.out.2.2 H1.out.1 H1.out.2.2.size)
    clear hh
    generalize runL [] ops = R at *
    go_wp2_with fail
    refine (alive_any HM.out _).mono ?_; rintro e w3 ⟨rfl, hb3⟩
    have H3 := hid hb3.out
    have K3 := hid (K2.out.trans (hb3.out.mono K2.out.size))
    clear hb3
    go_wp2_with fail
    refine (HM.out.range b R 0 (-1) w3 (HM.out.below H2.out.2.1 H3.out) (by decide) (by decide) (by decide) (by decide)).mono ?_
    rw [rangeL_all]
    rintro e w4 ⟨p4, c4, rfl, hh⟩
    have H4 := hid hh.out
    have K4 := hid (Keep.end K3.out hh.out.2.2 H1.out.1 K3.out.size)
    have HT := hid ((H2.out.1.below H3.out).keep (Q := But b) hh.out.2.2 (fun _ h => h))
    clear hh
    go_wp2_with fail
    refine (same_any _ _ _ _ R R _ H4.out.1 HT.out (by have := HL.out; omega)).mono ?_
    rintro e w5 ⟨rfl, hb5⟩
    have K5 := hid (K4.out.trans (hb5.out.mono K4.out.size))
    have hdt : decide (R = R) = true := by simp
    rw [hdt]
    clear hb5 hdt
    go_wp2_with fail
    go_ret
    exact ⟨rfl, K5.out⟩

end Go.Proofs.Ytmlnjcmkengkhaa
