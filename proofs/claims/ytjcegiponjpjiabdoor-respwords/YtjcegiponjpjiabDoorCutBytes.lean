/- An argument's bytes cut off: resp.cutBytes. -/
import Derived.Test.YtjcegiponjpjiabDoorNumber
import Derived.Shelf.Bytes.SlEqualAll
namespace Go.Proofs.YtjcegiponjpjiabDoor
open Go.RowKit

theorem conv_any {w : World} {p : Option Addr} {s : List UInt8} (c : Nat) (h : At w p s) : (convert 26 9 (.slice p s.length c)).run Tryd.prog w = .ok (.string ⟨s.toArray⟩) w := by
  have := Lib.BytesIn.convert (P := Tryd.prog) h.bytesIn (by simp [nums]) c 26 5 9 Tryd.underlying26 Tryd.underlying5 Tryd.underlying9
  rw [this]
  congr 2
  unfold strOfNums
  congr 1
  exact congrArg List.toArray (bytesOf_nums s)
/-- what stands behind an argument's bytes: 0 all is well, 34 something else, -1 not all of it is there -/
def endVal (s : List UInt8) (size : Nat) : Int :=
  if s.length < size then -1 else if Lib.hasPrefix [13, 10] ((s.drop size).take 2) = false then 34 else if s.length < size + 2 then -1 else 0
theorem endVal_short {s : List UInt8} {size : Nat} (h : s.length < size) : endVal s size = -1 := by unfold endVal; rw [if_pos h]
theorem endVal_bad {s : List UInt8} {size : Nat} (h : ¬ s.length < size) (h1 : Lib.hasPrefix [13, 10] ((s.drop size).take 2) = false) : endVal s size = 34 := by unfold endVal; rw [if_neg h, if_pos h1]
theorem endVal_more {s : List UInt8} {size : Nat} (h : ¬ s.length < size) (h1 : Lib.hasPrefix [13, 10] ((s.drop size).take 2) = true) (h2 : s.length < size + 2) : endVal s size = -1 := by unfold endVal; rw [if_neg h, h1, if_neg (by simp), if_pos h2]
theorem endVal_ok {s : List UInt8} {size : Nat} (h : ¬ s.length < size) (h1 : Lib.hasPrefix [13, 10] ((s.drop size).take 2) = true) (h2 : ¬ s.length < size + 2) : endVal s size = 0 := by unfold endVal; rw [if_neg h, h1, if_neg (by simp), if_neg h2]
/-- what cutBytes tells -/
def Told (w : World) (p : Option Addr) (s : List UInt8) (cap size : Nat) (v : Value) : Prop :=
  (endVal s size ≠ 0 ∧ v = .tuple #[.slice none 0 0, .slice p s.length cap, .int .i64 (endVal s size)]) ∨
  (endVal s size = 0 ∧ ∃ q, v = .tuple #[.slice p size size, .slice q (s.length - (size + 2)) (s.length - (size + 2)), .int .i64 0] ∧ At w q (s.drop (size + 2)))
set_option maxHeartbeats 1000000 in
set_option maxRecDepth 100000 in
/-- cutBytes -/
theorem cutBytes_any (p : Option Addr) (s : List UInt8) (cap size : Nat) (w : World) (hA : At w p s) (hc : s.length ≤ cap) :
    Calls Tryd.prog 19 #[.slice p s.length cap, .int .i64 size] w fun e w' => (∃ v, e = .returned v ∧ Hid (Told w p s cap size v)) ∧ Hid (∃ n, w' = w.drewN n) := by
  by_cases h : s.length < size
  · have HT : Hid (Told w p s cap size (.tuple #[.slice none 0 0, .slice p s.length cap, .int .i64 (-1)])) := .inl ⟨by rw [endVal_short h]; decide, by rw [endVal_short h]⟩
    go_enter Tryd.func19, Tryd.ntmps19
    go_wp2
    go_ret3
    exact ⟨⟨_, rfl, HT.out⟩, 0, rfl⟩
  · have hle : size ≤ s.length := by omega
    have HC1 := hid (cut_any p s cap size w hA hle hc)
    obtain ⟨m, hm⟩ : ∃ m, m = min (s.length - size) 2 := ⟨_, rfl⟩
    have hmN : min ((s.length - size : Nat) : Int) 2 = (m : Int) := by omega
    have HM := hid hm
    clear hm
    have HT1 := hid fun h1 => endVal_bad (s := s) (size := size) h h1
    have HT2 := hid fun h1 h2 => endVal_more (s := s) (size := size) h h1 h2
    have HT3 := hid fun h1 h2 => endVal_ok (s := s) (size := size) h h1 h2
    go_enter Tryd.func19, Tryd.ntmps19
    go_wp2_with fail
    refine HC1.out.mono ?_; rintro e w' ⟨⟨q, rfl, hq⟩, rfl⟩
    have hdl : (s.drop size).length = s.length - size := by simp
    have hc2 := cut_any q (s.drop size) (s.length - size) m w.drew hq (by omega) (by omega)
    rw [hdl] at hc2
    have HC2 := hid hc2
    have HQ := hid hq
    clear hc2 hq HC1
    go_wp2_with fail
    refine HC2.out.mono ?_; rintro e w' ⟨⟨q2, rfl, hq2⟩, rfl⟩
    obtain ⟨E, hE⟩ : ∃ E, E = (s.drop size).take 2 := ⟨_, rfl⟩
    have hEl : E.length = m := by rw [hE]; have := HM.out; simp; omega
    have hcv := conv_any m (show At w.drew.drew q E by rw [hE]; exact HQ.out.take 2)
    rw [hEl] at hcv
    have HP := hid (Tryd.strings_HasPrefix ⟨#[13, 10]⟩ ⟨E.toArray⟩ w.drew.drew)
    have HE := hid hE
    have HQ2 : Hid (At w q2 ((s.drop size).drop m)) := hq2
    clear hE hq2 HC2
    go_wp2_with fail
    have hPv : Lib.hasPrefix (⟨#[13, 10]⟩ : ByteArray).data.toList (⟨E.toArray⟩ : ByteArray).data.toList = Lib.hasPrefix [13, 10] E := rfl
    rw [hPv] at HP
    have hfit : Lib.hasPrefix [13, 10] E = true ∨ Lib.hasPrefix [13, 10] E = false := by cases Lib.hasPrefix [13, 10] E <;> simp
    rcases hfit with hp | hp
    · rw [hp] at HP
      by_cases h2 : s.length < size + 2
      · have hm2 : m < 2 := by have := HM.out; omega
        have hev := HT2.out (by rw [← HE.out]; exact hp) h2
        have HT : Hid (Told w p s cap size (.tuple #[.slice none 0 0, .slice p s.length cap, .int .i64 (-1)])) := .inl ⟨by rw [hev]; decide, by rw [hev]⟩
        clear hev hp hPv
        refine HP.out.mono ?_; rintro e w' ⟨rfl, rfl⟩
        go_wp2
        go_ret3
        exact ⟨⟨_, rfl, HT.out⟩, 2, rfl⟩
      · have hm2 : m = 2 := by have := HM.out; omega
        subst hm2
        have hev := HT3.out (by rw [← HE.out]; exact hp) h2
        have hq3 := HQ2.out
        rw [List.drop_drop] at hq3
        have hsub : s.length - size - 2 = s.length - (size + 2) := by omega
        have HT : Hid (Told w p s cap size (.tuple #[.slice p size size, .slice q2 (s.length - size - 2) (s.length - size - 2), .int .i64 0])) := .inr ⟨hev, q2, by rw [hsub], hq3⟩
        clear hev hp hq3 hsub hPv
        refine HP.out.mono ?_; rintro e w' ⟨rfl, rfl⟩
        go_wp2
        go_ret3
        exact ⟨⟨_, rfl, HT.out⟩, 2, rfl⟩
    · rw [hp] at HP
      have hev := HT1.out (by rw [← HE.out]; exact hp)
      have HT : Hid (Told w p s cap size (.tuple #[.slice none 0 0, .slice p s.length cap, .int .i64 34])) := .inl ⟨by rw [hev]; decide, by rw [hev]⟩
      clear hev hp hPv
      refine HP.out.mono ?_; rintro e w' ⟨rfl, rfl⟩
      go_wp2
      go_ret3
      exact ⟨⟨_, rfl, HT.out⟩, 2, rfl⟩

end Go.Proofs.YtjcegiponjpjiabDoor
